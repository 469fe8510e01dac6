/- Walk of package plan: inOrder. -/
import Derived.Test.YtnikhhbnbeljeaaGreatDoorPlnJ
set_option linter.unusedSimpArgs false
set_option linter.unusedVariables false
namespace Go.Proofs.YtnikhhbnbeljeaaGreatDoor.PL
open Go.ChangeShapes Go.WideShapes Go.ChangeAt Go.RowKit Go.Base Go.Lab Go.Civ

theorem below_of_grown {a b : World} (h : a.grownBy b none) : Below a.heap.size a b := ⟨h.os, h.tape, h.output, h.size, fun k hk => h.block k hk (by simp)⟩
theorem info_parts {P : Program} {e : TypeId} {z : Value} {size bytes : Nat} (h : (P.info? e).map (fun i => (i.zero, i.size, i.bytes)) = some (some z, size, bytes)) : ∃ i, P.info? e = some i ∧ i.zero = some z ∧ i.size = size ∧ i.bytes = bytes := by
  cases hi : P.info? e with
  | none => rw [hi] at h; cases h
  | some i => rw [hi] at h; simp at h; exact ⟨i, rfl, h.1, h.2.1, h.2.2⟩
def InPost (w : World) (l : List Rk) (e : Ending) (w' : World) : Prop :=
  ∃ g, e = .returned (.slice (some ⟨g, 0, none⟩) l.length l.length) ∧ Ranks w' g l ∧ w.heap.size ≤ g ∧ Below w.heap.size w w'
def rkAll (f : Int → Nat) (hs : List Int) : List Rk := hs.map fun h => (h, f h)
theorem rkF_at (f : Int → Nat) (hs : List Int) (k : Nat) (hk : k < hs.length) : rkF (rkAll f hs) k = [.int .i64 hs[k], .int .u64 (f hs[k] : Int)] := by
  unfold rkF rkAll
  rw [List.getD_eq_getElem?_getD, List.getElem?_map, List.getElem?_eq_getElem hk]
  rfl
set_option maxHeartbeats 8000000 in
set_option maxRecDepth 20000 in
theorem inOrder_any (j : Jb) (occ : Int) (A : Option Addr) (hs : List Int) (c : Nat) (w : World) (hn : j.name.length ≤ maxLen) (ho : I64 occ) (hN : Nums w A hs) (hm : hs.length ≤ 4096) (hr : hs.Pairwise (· < ·)) (hP : Pow w) :
    Calls Tryz.prog 79 #[jobV j, .int .i64 occ, .slice A hs.length c] w (InPost w (rkL (rankN j.name occ) hs)) := by
  have hm' : (hs.length : Int) ≤ 4096 := by omega
  have HP := Lib.hid hP
  have HN := Lib.hid hN
  have HI : Hid (∀ h ∈ hs, I64 h) := Lib.hid (fun h hh => by
    obtain ⟨i, hi, rfl⟩ := List.mem_iff_getElem.1 hh
    obtain ⟨_, _, _, _, l1, l2⟩ := hN i hi
    exact ⟨l1, l2⟩)
  have HR := Lib.hid (fun (x : Int) (hx : I64 x) V (hV : Pow V) => rank_any j occ x ho hx hn V hV)
  have HS := Lib.hid (fun d => sorted_rk (rankN j.name occ) hs d hr)
  have HLn : Hid ((rkL (rankN j.name occ) hs).length = hs.length) := Lib.hid (by unfold rkL; rw [List.length_map, ordH_len])
  have HU : Hid (∀ x, rankN j.name occ x < 18446744073709551616) := Lib.hid (fun x => Mx.hash_lt _)
  generalize rankN j.name occ = f at *
  have HF := Lib.hid (fun k hk => rkF_at f hs k hk)
  have hsort : Hid (∀ g V, Elems 2 117 V g hs.length hs.length (rkF (rkAll f hs)) → Calls Tryz.prog 140 #[.slice (some ⟨g, 0, none⟩) hs.length hs.length, .func (.func 141) #[] #[]] V (SortPost V g (rkAll f hs))) := Lib.hid (fun g V h => by
    have hl : (rkAll f hs).length = hs.length := by unfold rkAll; simp
    have := sort_any g (rkAll f hs) hs.length V (by rw [hl]; exact h) (by rw [hl]; omega)
    rwa [hl] at this)
  obtain ⟨i0, hinfo, hz0, hz1, hz2⟩ := info_parts (P := Tryz.prog) (e := 117) (z := .agg #[.int .i64 0, .int .u64 0]) (size := 2) (bytes := 16) (by kernel_rfl)
  clear hn ho hN hr hP
  obtain ⟨nm, sp, sa, sel, sc, jit, wav, fai, par, dea, mis, bnd⟩ := j
  obtain ⟨mi, hO, da, mo, we, ad, aw⟩ := sp
  simp only [jobV, jobC] at *
  go_enter Tryz.func79, Tryz.ntmps79
  go_wp2_with (refine wpList_make_full (o := ⟨some 12, _, _, _, _, _⟩) _ (by rfl) (.tmp 11) (.tmp 11) 114 (by rfl) w.heap.size 117 i0 (.agg #[.int .i64 0, .int .u64 0]) 2 Tryz.underlying114 hinfo hz0 hz1 .i64 .i64 _ _ hs.length (by rfl) (by rfl) (by rfl) (by rfl) (by rw [hz2]; omega) (by unfold maxLen; omega) (by simp) ?_; intro w1 hown hgrow; have hE0 := Elems.of_own (rkF (rkAll f hs)) hown; rw [World.size_alloc] at hE0; have HE0 := Lib.hid hE0; clear hE0; have HB0 := Lib.hid (Below.grown (below_alloc w _) hgrow (by simp) (fun k h => by cases h)); have hr0 := row_below (below_of_grown hgrow) (by simp) (heap_new w (.cells #[.string ⟨nm.toArray⟩, .int .u64 mi, .int .u64 hO, .int .u64 da, .int .u64 mo, .int .u64 we, .bool ad, .bool aw, .slice sa sel.length sc, .int .i64 jit, .int .i64 wav, .int .i64 fai, .int .i64 par, .int .i64 dea, .int .i64 mis, .int .i64 bnd] 27)); have HR0 := Lib.hid hr0; clear hown hgrow hr0)
  go_loopw [8, 9, 15] (fun _ _ i wr => ∃ k : Nat, k ≤ hs.length ∧ i = .int .i64 (k : Int) ∧ Hid (Elems 2 117 wr (w.heap.size + 1) hs.length k (rkF (rkAll f hs))) ∧ Hid (Below w.heap.size w wr) ∧ Hid (wr.heap[w.heap.size]? = some (.cells #[.string ⟨nm.toArray⟩, .int .u64 mi, .int .u64 hO, .int .u64 da, .int .u64 mo, .int .u64 we, .bool ad, .bool aw, .slice sa sel.length sc, .int .i64 jit, .int .i64 wav, .int .i64 fai, .int .i64 par, .int .i64 dea, .int .i64 mis, .int .i64 bnd] 27 (0, 0)))) (fun _ _ i _ => hs.length - (intOf i).toNat)
  case atStart => exact ⟨0, Nat.zero_le _, rfl, HE0, HB0, HR0⟩
  case round =>
    obtain ⟨k, hk, rfl, HE, HB, HRow⟩ := hrel
    clear HE0 HB0 HR0
    by_cases hlt : k < hs.length
    · have hlt' : (k : Int) < (hs.length : Int) := by omega
      have hk0 : (0 : Int) ≤ (k : Int) := by omega
      obtain ⟨b, o, rfl, c0, l1, l2⟩ := (HN.out.later HB.out) k hlt
      obtain ⟨cj, _⟩ := cells_of_heap HRow.out
      have HFk := Lib.hid (HF.out k hlt)
      have HRk := Lib.hid (HR.out hs[k] ⟨l1, l2⟩)
      generalize hs[k] = x at *
      clear l1 l2
      go_wp2_with (first | (go_at_call 38; refine (HRk.out _ (HP.out.later HB.out)).mono ?_; rintro e w2 ⟨rfl, hb⟩; have HE2 := Lib.hid (HE.out.later hb); have HB2 := Lib.hid (HB.out.trans (hb.mono HB.out.size)); have HRow2 := Lib.hid (row_below hb (heap_lt HRow.out) HRow.out); clear hb cj c0) | (refine wpList_store_elem (o := ⟨none, _, _, _, _, _⟩) (by rfl) 117 (.tmp 28) (.tmp 27) (by rfl) HE2.out hlt _ (by rfl) #[.int .i64 x, .int .u64 (f x : Int)] (by rfl) (by rfl) (by rfl) (by kernel_rfl) (by rfl) HFk.out ?_; intro w3 hE3 hM3 hz3; have HE3 := Lib.hid hE3; have HB3 := Lib.hid (HB2.out.trans (hM3.below (fun j _ h => by omega) HB2.out.size)); have HRow3 := Lib.hid (hM3.heap HRow2.out (by omega)); clear hE3 hM3 hz3))
      go_roundw
      case rel => exact ⟨k + 1, by omega, by go_num, HE3, HB3, HRow3⟩
      case measure => simp [intOf]; omega
    · obtain rfl : k = hs.length := by omega
      clear hlt hk
      go_wp2_with (go_at_call 140; refine (hsort.out _ _ HE.out).mono ?_; rintro e w2 ⟨d, rfl, hp, hpw, hrk, hb⟩; have HD := Lib.hid (HS.out d hp hpw); have HK := Lib.hid hrk; have HB2 := Lib.hid (hb _ _ HB.out (by omega)); clear hp hpw hrk hb)
      go_ret
      exact ⟨w.heap.size + 1, by rw [HLn.out]; rfl, by rw [← HD.out]; exact HK.out, by omega, HB2.out⟩
end Go.Proofs.YtnikhhbnbeljeaaGreatDoor.PL
