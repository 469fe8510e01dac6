/- Walk of package plan's lives: what must come of every program. -/
import Derived.Test.YtnikhhbnbeljeaaGreatDoorPlnR
set_option linter.unusedSimpArgs false
set_option linter.unusedVariables false
namespace Go.Proofs.YtnikhhbnbeljeaaGreatDoor.PL
open Go.ChangeShapes Go.WideShapes Go.ChangeAt Go.RowKit Go.Base Go.Lab Go.Civ Go.Wire

theorem job_lit (w : World) : Calls Tryz.prog 82 #[.string ⟨#[97]⟩] w fun e w' => e = .returned (.agg #[.string ⟨#[97]⟩, .int .u64 1, .int .u64 8, .int .u64 4294967294, .int .u64 8190, .int .u64 127, .bool true, .bool true, .slice none 0 0, .int .i64 0, .int .i64 0, .int .i64 100, .int .i64 0, .int .i64 3600, .int .i64 1, .int .i64 0]) ∧ Below w.heap.size w w' := job_any w
theorem nums_five (w : World) (t : TypeId) : Nums (w.alloc (.cells #[.int .i64 0, .int .i64 1, .int .i64 2, .int .i64 3, .int .i64 4] t)) (some ⟨w.heap.size, 0, none⟩) [0, 1, 2, 3, 4] := fun i hi => by
  match i, hi with
  | 0, _ => exact ⟨_, 0, rfl, by rw [Nat.zero_add, cell_new]; rfl, (show (-9223372036854775808 : Int) ≤ 0 by decide), (show (0 : Int) ≤ 9223372036854775807 by decide)⟩
  | 1, _ => exact ⟨_, 0, rfl, by rw [Nat.zero_add, cell_new]; rfl, (show (-9223372036854775808 : Int) ≤ 1 by decide), (show (1 : Int) ≤ 9223372036854775807 by decide)⟩
  | 2, _ => exact ⟨_, 0, rfl, by rw [Nat.zero_add, cell_new]; rfl, (show (-9223372036854775808 : Int) ≤ 2 by decide), (show (2 : Int) ≤ 9223372036854775807 by decide)⟩
  | 3, _ => exact ⟨_, 0, rfl, by rw [Nat.zero_add, cell_new]; rfl, (show (-9223372036854775808 : Int) ≤ 3 by decide), (show (3 : Int) ≤ 9223372036854775807 by decide)⟩
  | 4, _ => exact ⟨_, 0, rfl, by rw [Nat.zero_add, cell_new]; rfl, (show (-9223372036854775808 : Int) ≤ 4 by decide), (show (4 : Int) ≤ 9223372036854775807 by decide)⟩
theorem occ_600 : occOk (jobA 100 2) 1 600 = true := by
  unfold occOk
  rw [jobA_may 100 2 (by omega) (by omega)]
  rfl
theorem occ_601 : occOk (jobA 100 2) 1 601 = false := by
  unfold occOk
  rw [show occB 601 = false by decide +kernel]
  simp
theorem hosts_five : hostsOk [97] 600 [0, 1, 2, 3, 4] = true := by decide +kernel
def FivePost (w : World) (e : Ending) (w' : World) : Prop :=
  ∃ (g : Nat) (l : List Rn) (jn : Int), e = .returned (.tuple #[.slice (some ⟨g, 0, none⟩) 5 5, .int .i64 0]) ∧ l.length = 5 ∧ Rns w' (some ⟨g, 0, none⟩) l ∧ WvOk l ∧ wavesR l = 3 ∧ 0 ≤ jn ∧ jn ≤ 100 ∧
    w'.cell? ⟨g, 34, none⟩ = some (.int .i64 2) ∧ w'.cell? ⟨g, 5, none⟩ = some (.int .i64 4200) ∧ w'.cell? ⟨g, 4, none⟩ = some (.int .i64 (600 + jn)) ∧ Below w.heap.size w w'
theorem runs_five (w : World) (g : Nat) (hT : Tb w) (hN : Nums w (some ⟨g, 0, none⟩) [0, 1, 2, 3, 4]) :
    Calls Tryz.prog 32 #[.agg #[.string ⟨#[97]⟩, .int .u64 1, .int .u64 8, .int .u64 4294967294, .int .u64 8190, .int .u64 127, .bool true, .bool true, .slice none 0 0, .int .i64 100, .int .i64 2, .int .i64 100, .int .i64 0, .int .i64 3600, .int .i64 1, .int .i64 0], .int .i64 1, .int .i64 600, .slice (some ⟨g, 0, none⟩) 5 5] w (FivePost w) := by
  refine (show Calls Tryz.prog 32 #[.agg #[.string ⟨#[97]⟩, .int .u64 1, .int .u64 8, .int .u64 4294967294, .int .u64 8190, .int .u64 127, .bool true, .bool true, .slice none 0 0, .int .i64 100, .int .i64 2, .int .i64 100, .int .i64 0, .int .i64 3600, .int .i64 1, .int .i64 0], .int .i64 1, .int .i64 600, .slice (some ⟨g, 0, none⟩) 5 5] w _ from runs_main (jobA 100 2) 1 600 (some ⟨g, 0, none⟩) [0, 1, 2, 3, 4] 5 w (jobA_ok 100 2 ⟨by decide, by decide⟩ ⟨by decide, by decide⟩ w) ⟨by decide, by decide⟩ ⟨by decide, by decide⟩ hN (by decide) hT occ_600 hosts_five).mono (fun e w' h => ?_)
  obtain ⟨g', he, hr, hg, hb⟩ := h
  obtain ⟨L, hL⟩ : ∃ L, L = ordH (rankN (jobA 100 2).name 600) [0, 1, 2, 3, 4] := ⟨_, rfl⟩
  have hl : L.length = 5 := by rw [hL, ordH_len]; rfl
  rw [← hL] at hr
  have hr5 : RunsAt w' g' L.length (runF (jobA 100 2) 1 600 L) := by rw [hl]; exact hr
  have hj := MI.spr_bd 101 [(jobA 100 2).name, itoT (L.getD 0 0)] (by omega)
  have hw : wavesR (runsOf (jobA 100 2) 1 600 L) = 3 := by
    rw [runs_waves (by decide) (by omega), hl]; rfl
  refine ⟨g', runsOf (jobA 100 2) 1 600 L, jitN (jobA 100 2) (L.getD 0 0), he, by rw [runsOf_len, hl], rns_of hr5, runs_wv (by decide) (by omega), hw, hj.1, ?_, ?_, ?_, ?_, hb⟩
  · have := hj.2
    show MI.spr 101 _ ≤ 100
    omega
  · exact hr 4 (by decide) 6 _ rfl
  · exact hr 0 (by decide) 5 _ rfl
  · exact hr 0 (by decide) 4 _ rfl
theorem runs_none (w : World) (hT : Tb w) :
    Calls Tryz.prog 32 #[.agg #[.string ⟨#[97]⟩, .int .u64 1, .int .u64 8, .int .u64 4294967294, .int .u64 8190, .int .u64 127, .bool true, .bool true, .slice none 0 0, .int .i64 100, .int .i64 2, .int .i64 100, .int .i64 0, .int .i64 3600, .int .i64 1, .int .i64 0], .int .i64 1, .int .i64 601, .slice none 0 0] w fun e w' => e = .returned (.tuple #[.slice none 0 0, .int .i64 1]) ∧ Below w.heap.size w w' :=
  runs_err (jobA 100 2) 1 601 none [] 0 w (jobA_ok 100 2 ⟨by decide, by decide⟩ ⟨by decide, by decide⟩ w) ⟨by decide, by decide⟩ ⟨by decide, by decide⟩ hT occ_601
set_option maxHeartbeats 4000000 in
set_option maxRecDepth 20000 in
theorem lives_any (w : World) (hT : Tb w) :
    Calls Tryz.prog 34 #[] w fun e w' => e = .returned (.bool true) ∧ Below w.heap.size w w' := by
  have HT := Lib.hid hT
  have HJ := Lib.hid (fun V => job_lit V)
  have HF := Lib.hid (fun V g hT hN => runs_five V g hT hN)
  have HO := Lib.hid (fun V hT => runs_none V hT)
  clear hT
  go_enter Tryz.func34, Tryz.ntmps34
  go_wp2_with (go_at_call 82; refine (HJ.out _).mono ?_; rintro e w1 ⟨rfl, hb⟩; have HB1 := Lib.hid hb; clear hb)
  have hbx := (HB1.out.alloc HB1.out.size (.cells #[.string ⟨#[97]⟩, .int .u64 1, .int .u64 8, .int .u64 4294967294, .int .u64 8190, .int .u64 127, .bool true, .bool true, .slice none 0 0, .int .i64 100, .int .i64 2, .int .i64 100, .int .i64 0, .int .i64 3600, .int .i64 1, .int .i64 0] 27)).alloc (by have := HB1.out.size; simp; omega) (.cells #[.int .i64 0, .int .i64 1, .int .i64 2, .int .i64 3, .int .i64 4] 3)
  have HN5 := Lib.hid (nums_five (w1.alloc (.cells #[.string ⟨#[97]⟩, .int .u64 1, .int .u64 8, .int .u64 4294967294, .int .u64 8190, .int .u64 127, .bool true, .bool true, .slice none 0 0, .int .i64 100, .int .i64 2, .int .i64 100, .int .i64 0, .int .i64 3600, .int .i64 1, .int .i64 0] 27)) 3)
  rw [World.size_alloc] at HN5
  refine (HF.out _ _ (HT.out.later hbx) HN5.out).mono ?_
  rintro e w2 ⟨g, l, jn, rfl, hl, hR, hwv, hwz, hj0, hj1, c34, c5, c4, hb⟩
  have hrj := row_below hb (by simp; omega) (heap_old (.cells #[.int .i64 0, .int .i64 1, .int .i64 2, .int .i64 3, .int .i64 4] 3) (by simp) (heap_new w1 (.cells #[.string ⟨#[97]⟩, .int .u64 1, .int .u64 8, .int .u64 4294967294, .int .u64 8190, .int .u64 127, .bool true, .bool true, .slice none 0 0, .int .i64 100, .int .i64 2, .int .i64 100, .int .i64 0, .int .i64 3600, .int .i64 1, .int .i64 0] 27)))
  obtain ⟨cj, _⟩ := cells_of_heap hrj
  have HB2 := Lib.hid (hbx.trans (hb.mono hbx.size))
  have HL := Lib.hid hl
  have HR := Lib.hid hR
  have HWv := Lib.hid hwv
  have HWa := Lib.hid (fun V (hV : Rns V (some ⟨g, 0, none⟩) l) => (show Calls Tryz.prog 42 #[.slice (some ⟨g, 0, none⟩) 5 5] V fun e w' => e = .returned (.int .i64 3) ∧ Below V.heap.size V w' from by
    have h := waves_any (some ⟨g, 0, none⟩) l 5 V hV (by rw [hl]; unfold maxLen; omega) hwv
    rw [hl, hwz] at h
    exact h))
  have C34 := Lib.hid c34
  have C5 := Lib.hid c5
  have C4 := Lib.hid c4
  clear hbx hb hrj hl hR hwv hwz c34 c5 c4 HN5
  go_wp2_with (first | (go_at_call 32; refine (HO.out _ (HT.out.later HB2.out)).mono ?_; rintro e w3 ⟨rfl, hb⟩; have HB3 := Lib.hid (HB2.out.trans (hb.mono HB2.out.size)); have HR3 := Lib.hid (HR.out.later hb); have d34 := cell_later hb C34.out; have d5 := cell_later hb C5.out; have d4 := cell_later hb C4.out; clear hb cj) | (go_at_call 42; refine (HWa.out _ HR3.out).mono ?_; rintro e w4 ⟨rfl, hb⟩; have HB4 := Lib.hid (HB3.out.trans (hb.mono HB3.out.size)); have e34 := cell_later hb d34; have e5 := cell_later hb d5; have e4 := cell_later hb d4; clear hb d34 d5 d4))
  go_ret
  exact ⟨ret_bool (decide_eq_true (by omega)), HB4.out⟩
end Go.Proofs.YtnikhhbnbeljeaaGreatDoor.PL
