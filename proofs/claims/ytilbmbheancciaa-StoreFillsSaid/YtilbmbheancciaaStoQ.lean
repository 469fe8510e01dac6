/- The law StoreFills. -/
import Derived.Test.YtilbmbheancciaaStoP
import Derived.Test.YtilbmbheancciaaInts
import Derived.Laws.OwnMore
set_option linter.unusedSimpArgs false
set_option linter.unusedVariables false
namespace Go.Sto
/-- A store with at most the file a, of u bytes. -/
def Fill (room u : Nat) (st : St) : Prop := (u = 0 ∧ st = ⟨[], room, -1⟩) ∨ ∃ bs : List UInt8, bs.length = u ∧ st = ⟨[⟨[97], bs, 0, false⟩], room, -1⟩
theorem Fill.room {room u : Nat} {st : St} (h : Fill room u st) : st.room - used st.files = room - u := by
  rcases h with ⟨rfl, rfl⟩ | ⟨bs, rfl, rfl⟩
  · rfl
  · show room - used [_] = _
    unfold used; simp
theorem ok97 : okName [97] = true := by decide
theorem Fill.app {room u : Nat} {st : St} (h : Fill room u st) (hu : u ≤ room) (b : List UInt8) : (room - u < b.length ∧ appendR st [97] b = (2, st)) ∨ (¬ room - u < b.length ∧ ∃ st', appendR st [97] b = (0, st') ∧ Fill room (u + b.length) st') := by
  have hr := h.room
  by_cases hb : room - u < b.length
  · refine .inl ⟨hb, ?_⟩
    unfold appendR
    rw [if_pos ok97]
    rcases h with ⟨rfl, rfl⟩ | ⟨bs, rfl, rfl⟩
    · rw [if_neg (by show ¬ ((-1 : Int) = 0); decide)]
      show (if _ then _ else _) = _
      rw [if_pos (.inr (by rw [hr]; exact hb))]
    · rw [if_neg (by show ¬ ((-1 : Int) = 0); decide)]
      show (if _ then _ else _) = _
      rw [if_pos (by rw [hr]; exact hb)]
  · refine .inr ⟨hb, ?_⟩
    unfold appendR
    rw [if_pos ok97]
    rcases h with ⟨rfl, rfl⟩ | ⟨bs, rfl, rfl⟩
    · rw [if_neg (by show ¬ ((-1 : Int) = 0); decide)]
      refine ⟨_, ?_, .inr ⟨b, by simp, rfl⟩⟩
      show (if _ then _ else _) = _
      rw [if_neg (by rw [hr]; exact fun h => h.elim (fun h => by have : 64 ≤ 0 := h; omega) hb)]
      rfl
    · rw [if_neg (by show ¬ ((-1 : Int) = 0); decide)]
      refine ⟨_, ?_, .inr ⟨bs ++ b, by simp, rfl⟩⟩
      show (if _ then _ else _) = _
      rw [if_neg (by rw [hr]; exact hb)]
      rfl
end Go.Sto
namespace Go.Proofs.Ytilbmbheancciaa
open Go.ChangeShapes Go.WideShapes Go.ChangeAt Go.RowKit Go.Base Go.Sto Go.Maps

theorem byt_zeros {w : World} {base n c : Nat} {A : Option Addr} (h : w.ownsRow base 5 1 (.slice A n c) n (madeCells (Value.int .u8 0).cells (n * 1)).toList) : Byt w A (List.replicate n 0) := by
  have e : (madeCells (Value.int .u8 0).cells (n * 1)).toList = (List.replicate n (0 : UInt8)).map u8v := by
    rw [show (Value.int .u8 0).cells = #[.int .u8 0] from rfl, toList_madeCells_one, Nat.mul_one, List.map_replicate]; rfl
  rw [e] at h
  exact own_byt_any h
set_option maxHeartbeats 4000000 in
set_option maxRecDepth 20000 in
theorem law_fills (rz : Int) (A : Option Addr) (zs : List Int) (n c : Nat) (w : World) (hz : Nums w A zs) (hn : zs.length = n) (hm : n ≤ maxLen) (h1 : -9223372036854775808 ≤ rz) (h2 : rz ≤ 9223372036854775807) :
    Calls Try.prog 6 #[.int .i64 rz, .slice A n c] w fun e w' => e = .returned (.bool true) ∧ Below w.heap.size w w' := by
  obtain ⟨i0, hi0, hz0, hz1, hz2⟩ := info_parts u8_info
  have HLi := Lib.hid (fun V => lives_any V)
  unfold maxLen at hm
  have hm' : (n : Int) ≤ 9223372036854775807 := by omega
  by_cases hr1 : rz < 0
  · clear hz
    go_enter Try.func6, Try.ntmps6
    go_wp2_with (go_at_call 10; refine Calls.mono (by with_reducible exact HLi.out _) ?_; rintro e w1 ⟨rfl, hb⟩; have HB := Lib.hid hb; clear hb)
    go_ret
    exact ⟨rfl, HB.out⟩
  by_cases hr2 : 5000 < rz
  · clear hz
    have hr1' : 0 ≤ rz := by omega
    go_enter Try.func6, Try.ntmps6
    go_wp2_with (go_at_call 10; refine Calls.mono (by with_reducible exact HLi.out _) ?_; rintro e w1 ⟨rfl, hb⟩; have HB := Lib.hid hb; clear hb)
    go_ret
    exact ⟨rfl, HB.out⟩
  obtain ⟨room, hroom⟩ : ∃ k : Nat, rz = (k : Int) := ⟨rz.toNat, by omega⟩
  subst hroom
  have hr5 : (room : Int) ≤ 5000 := by omega
  have hr0 : (0 : Int) ≤ (room : Int) := by omega
  have HN := Lib.hid (new_ls (B := w.heap.size) room room w (by omega) rfl (Nat.le_refl _))
  have HZ := Lib.hid hz
  have HLn := Lib.hid hn
  clear hz hn hr1 hr2 h1 h2
  go_enter Try.func6, Try.ntmps6
  go_wp2_with (first
    | (go_at_call 8; refine Calls.mono (by with_reducible exact HN.out) ?_; rintro e w1 ⟨p, rfl, hx, hb⟩; have HX1 := Lib.hid hx; have HB1 := Lib.hid hb; clear hx hb)
    | (go_at_call 10; refine Calls.mono (by with_reducible exact HLi.out _) ?_; rintro e w2 ⟨rfl, hb⟩; have HX2 := Lib.hid (HX1.out.later hb); have HB2 := Lib.hid (HB1.out.trans (hb.mono HB1.out.size)); clear hb))
  go_loopw [7, 8] (fun lv iv wr => ∃ (k u : Nat) (st : St), k ≤ n ∧ iv = .int .i64 (k : Int) ∧ u ≤ room ∧ lv = .int .i64 ((room - u : Nat) : Int) ∧ Hid (Fill room u st) ∧ Hid (LS w.heap.size wr p st) ∧ Hid (Below w.heap.size w wr)) (fun _ iv _ => n - (intOf iv).toNat)
  case atStart => exact ⟨0, 0, _, Nat.zero_le _, rfl, Nat.zero_le _, rfl, Lib.hid (.inl ⟨rfl, rfl⟩), HX2, HB2⟩
  case round =>
    obtain ⟨k, u, st, hk, rfl, hu, rfl, HF, HX, HB⟩ := hrel
    have hkz : (0 : Int) ≤ (k : Int) := by omega
    by_cases hk1 : k < n
    · have hk1' : (k : Int) < (n : Int) := by omega
      by_cases hk2 : k < 40
      · have hk2' : (k : Int) < 40 := by omega
        obtain ⟨b, o, rfl, c0, hb1, hb2⟩ := (HZ.out.later HB.out) k (by rw [HLn.out]; exact hk1)
        generalize zs[k]'(by rw [HLn.out]; exact hk1) = z at *
        by_cases hz1 : z < 0
        · go_wp2
          go_roundw
          case rel => exact ⟨k + 1, u, st, by omega, by go_num, hu, rfl, HF, HX, HB⟩
          case measure => simp [intOf]; omega
        · have hz0' : 0 ≤ z := by omega
          by_cases hz3 : 6000 < z
          · go_wp2
            go_roundw
            case rel => exact ⟨k + 1, u, st, by omega, by go_num, hu, rfl, HF, HX, HB⟩
            case measure => simp [intOf]; omega
          · obtain ⟨m, rfl⟩ : ∃ m : Nat, z = (m : Int) := ⟨z.toNat, by omega⟩
            have hm6 : (m : Int) ≤ 6000 := by omega
            have HM6 : Hid (m ≤ 6000) := Lib.hid (by omega)
            have hlr : (List.replicate m (0 : UInt8)).length = m := List.length_replicate
            have HLr := Lib.hid hlr
            have hru : ((room - u : Nat) : Int) = (room : Int) - (u : Int) := by omega
            rcases HF.out.app hu (List.replicate m 0) with ⟨hlt, ha⟩ | ⟨hlt, st', ha, hf'⟩
            · rw [hlr] at hlt
              have hlt' : ((room - u : Nat) : Int) < (m : Int) := by omega
              have HAp := Lib.hid ha
              have HRm := Lib.hid HF.out.room
              clear ha hlr hru hlt hz1 hz3
              generalize hrl : room - u = rl at *
              have HRl := Lib.hid hrl
              clear hrl
              go_wp2_with (first
                | (refine wpList_make_full (o := ⟨some 59, _, _, _, _, _⟩) _ (by rfl) _ _ 31 (by rfl) wr.heap.size 5 i0 (.int .u8 0) 1 Try.underlying31 hi0 hz0 (by assumption) .i64 .i64 _ _ m (by rfl) (by rfl) (by rfl) (by rfl) (by have := HM6.out; rw [hz2]; omega) (by have := HM6.out; unfold maxLen; omega) (Nat.le_refl _) ?_; intro w3 hown hgrow; have hb3 := (Below.refl wr.heap.size wr).grown hgrow (Nat.le_refl _) (fun k h => by cases h); have HY3 := Lib.hid (byt_zeros hown); have HX3 := Lib.hid (HX.out.later hb3); have HB3 := Lib.hid (HB.out.trans (hb3.mono HB.out.size)); clear hown hgrow hb3)
                | (go_at_call 12; refine Calls.mono (app_ls HX3.out ⟨#[97]⟩ sz1 (some ⟨wr.heap.size, 0, none⟩) (List.replicate m 0) m m 2 HLr.out.symm HY3.out (by have := HM6.out; unfold maxLen; omega) (st' := st) (by show (appendR st [97] _).2 = st; rw [HAp.out]) (by show ((appendR st [97] _).1 : Int) = 2; rw [HAp.out]; rfl)) ?_; rintro e w4 ⟨rfl, hx, hb⟩; have HX4 := Lib.hid hx; have HB4 := Lib.hid (HB3.out.trans hb); clear hx hb)
                | (go_at_call 21; refine Calls.mono (room_ls HX4.out (rl : Int) (by rw [HRm.out])) ?_; rintro e w5 ⟨rfl, hb⟩; have HX5 := Lib.hid (HX4.out.later hb); have HB5 := Lib.hid (HB4.out.trans (hb.mono HB4.out.size)); clear hb))
              go_roundw
              case rel => exact ⟨k + 1, u, st, by omega, by go_num, hu, by rw [HRl.out], HF, HX5, HB5⟩
              case measure => simp [intOf]; omega
            · rw [hlr] at hlt hf'
              have hlt' : (m : Int) ≤ ((room - u : Nat) : Int) := by omega
              have HAp := Lib.hid ha
              have HRm := Lib.hid hf'.room
              have HF' := Lib.hid hf'
              have hsub : IntKind.i64.wrap (((room - u : Nat) : Int) - (m : Int)) = ((room - (u + m) : Nat) : Int) := by rw [IntKind.wrap_i64]; omega
              have hum : u + m ≤ room := by omega
              generalize hrl2 : room - (u + m) = rl2 at *
              have HRl2 := Lib.hid hrl2
              clear hrl2
              clear ha hlr hru hlt hz1 hz3 hf'
              generalize hrl : room - u = rl at *
              have HRl := Lib.hid hrl
              clear hrl
              go_wp2_with (first
                | (refine wpList_make_full (o := ⟨some 59, _, _, _, _, _⟩) _ (by rfl) _ _ 31 (by rfl) wr.heap.size 5 i0 (.int .u8 0) 1 Try.underlying31 hi0 hz0 (by assumption) .i64 .i64 _ _ m (by rfl) (by rfl) (by rfl) (by rfl) (by have := HM6.out; rw [hz2]; omega) (by have := HM6.out; unfold maxLen; omega) (Nat.le_refl _) ?_; intro w3 hown hgrow; have hb3 := (Below.refl wr.heap.size wr).grown hgrow (Nat.le_refl _) (fun k h => by cases h); have HY3 := Lib.hid (byt_zeros hown); have HX3 := Lib.hid (HX.out.later hb3); have HB3 := Lib.hid (HB.out.trans (hb3.mono HB.out.size)); clear hown hgrow hb3)
                | (go_at_call 12; refine Calls.mono (app_ls HX3.out ⟨#[97]⟩ sz1 (some ⟨wr.heap.size, 0, none⟩) (List.replicate m 0) m m 0 HLr.out.symm HY3.out (by have := HM6.out; unfold maxLen; omega) (st' := st') (by show (appendR st [97] _).2 = st'; rw [HAp.out]) (by show ((appendR st [97] _).1 : Int) = 0; rw [HAp.out]; rfl)) ?_; rintro e w4 ⟨rfl, hx, hb⟩; have HX4 := Lib.hid hx; have HB4 := Lib.hid (HB3.out.trans hb); clear hx hb)
                | (go_at_call 21; refine Calls.mono (room_ls HX4.out (rl2 : Int) (by rw [HRm.out])) ?_; rintro e w5 ⟨rfl, hb⟩; have HX5 := Lib.hid (HX4.out.later hb); have HB5 := Lib.hid (HB4.out.trans (hb.mono HB4.out.size)); clear hb))
              go_roundw
              case rel => exact ⟨k + 1, u + m, st', by omega, by go_num, hum, by rw [HRl2.out], HF', HX5, HB5⟩
              case measure => simp [intOf]; omega
      · have hk2' : ¬ (k : Int) < 40 := by omega
        go_wp2
        go_ret
        exact ⟨rfl, HB.out⟩
    · obtain rfl : k = n := by omega
      go_wp2
      go_ret
      exact ⟨rfl, HB.out⟩
end Go.Proofs.Ytilbmbheancciaa
