/- bytes.Clone. -/
import Derived.Test.YtihkjdoajfjnpaaAppend
import Derived.Test.YtihkjdoajfjnpaaMoved
import Derived.OwnWalk
import Derived.Lib.SliceRun
set_option linter.unusedSimpArgs false
set_option linter.unusedVariables false
namespace Go.Proofs.Ytihkjdoajfjnpaa
open Go.ChangeShapes Go.WideShapes Go.ChangeAt Go.RowKit Go.Base

theorem Byt.drop {w : World} {b o : Nat} {bs : List UInt8} (h : Byt w (some ⟨b, o, none⟩) bs) (k : Nat) : Byt w (some ⟨b, o + k, none⟩) (bs.drop k) := fun i hi => by
  rw [List.length_drop] at hi
  have := h.at_ (k := k + i) (by omega)
  refine ⟨b, o + k, rfl, ?_⟩
  rw [Nat.add_assoc, this]
  simp
theorem Byt.take {w : World} {A : Option Addr} {bs : List UInt8} (h : Byt w A bs) (k : Nat) : Byt w A (bs.take k) := fun i hi => by
  have hi' : i < bs.length := by rw [List.length_take] at hi; omega
  obtain ⟨b, o, e, c⟩ := h i hi'
  exact ⟨b, o, e, by rw [c]; simp⟩
theorem u8_info : (Try.prog.info? 5).map (fun i => (i.zero, i.size, i.bytes)) = some (some (.int .u8 0), 1, 1) := by kernel_rfl
/-- bytes.Clone: nil of nil, else a new row of the same bytes. -/
theorem clone_nil (c : Nat) (w : World) : Calls Try.prog 25 #[.slice none 0 c] w fun e w' => e = .returned (.slice none 0 0) ∧ w = w' := by
  have hsn := fun (w : World) (a : Option Addr) (n c n' c' : Nat) => Lib.run_eql_slice_nil (P := Try.prog) w 27 5 a n c n' c' Try.underlying27
  go_enter Try.func25, Try.ntmps25
  go_wp2
  go_ret
  exact ⟨rfl, rfl⟩
def ClonePost (w : World) (ys : List UInt8) (e : Ending) (w' : World) : Prop :=
  ∃ A c, e = .returned (.slice A ys.length c) ∧ Byt w' A ys ∧ Below w.heap.size w w' ∧ (∀ k, (Value.slice A ys.length c).ownBlock = some k → w.heap.size ≤ k ∧ k < w'.heap.size) ∧ ys.length ≤ c ∧ c ≤ maxLen ∧ w'.ownsRow w.heap.size 5 1 (.slice A ys.length c) ys.length (ys.map u8v)
theorem own_cap {w : World} {base n cap : Nat} {e : TypeId} {A : Option Addr} {xs : List Value} (h : w.ownsRow base e 1 (.slice A n cap) n xs) : n ≤ cap ∧ cap ≤ maxLen := by
  rcases h.2 with ⟨h, rfl⟩ | ⟨g', cap', cur, hv, hb, hg, hn, hc, _⟩
  · injection h with _ _ h; subst h; exact ⟨Nat.le_refl _, Nat.zero_le _⟩
  · injection hv with _ _ hv; subst hv; exact ⟨hn, hc⟩
set_option maxHeartbeats 1000000 in
theorem clone_some (ad : Addr) (ys : List UInt8) (c : Nat) (w : World) (hy : Byt w (some ad) ys) (hm : ys.length ≤ 140737488355328) :
    Calls Try.prog 25 #[.slice (some ad) ys.length c] w (ClonePost w ys) := by
  have HY := Lib.hid hy
  obtain ⟨i0, hi0, hz0, hz1, hz2⟩ := info_parts u8_info
  clear hy
  have hsn := fun (w : World) (a : Option Addr) (n c n' c' : Nat) => Lib.run_eql_slice_nil (P := Try.prog) w 27 5 a n c n' c' Try.underlying27
  go_enter Try.func25, Try.ntmps25
  go_wp2_with (at_builtin; refine wpList_append_byt _ (by rfl) (.tmp 5) (.tmp 6) 27 (by rfl) 5 i0 Try.underlying27 hi0 hz0 hz1 hz2 w.heap.size (.slice (some ⟨w.heap.size, 0, none⟩) 0 0) [] (by rfl) (World.ownsRow_made w #[] 0 (Nat.le_refl _) (by decide) rfl) (some ad) c ys (by rfl) (HY.out.alloc _) (by simp only [List.length_nil]; omega) (by simp) ?_; intro A1 c1 w1 hown hgrow hat; simp only [List.nil_append] at hown ⊢; have HO1 := Lib.hid (own_byt_any hown); have HB1 : Hid (Below w.heap.size w w1) := Lib.hid (((Below.refl _ _).alloc (Nat.le_refl _) _).grown hgrow (by simp) (by intro k hk; simp [Value.ownBlock] at hk; omega)); have HL := Lib.hid (own_base hown); have HK := Lib.hid (own_cap hown); have HW := Lib.hid hown; clear hown hgrow hat)
  go_ret
  exact ⟨A1, c1, rfl, HO1.out, HB1.out, HL.out, HK.out.1, HK.out.2, HW.out⟩
theorem clone_any (A : Option Addr) (ys : List UInt8) (c : Nat) (w : World) (hy : Byt w A ys) (hm : ys.length ≤ 140737488355328) :
    Calls Try.prog 25 #[.slice A ys.length c] w (ClonePost w ys) := by
  rcases A with _ | ad
  · have : ys = [] := by
      cases ys with
      | nil => rfl
      | cons y ys => obtain ⟨_, _, h, _⟩ := hy 0 (by simp); cases h
    subst this
    exact (clone_nil c w).mono fun e w' ⟨he, hw⟩ => by subst hw; exact ⟨none, 0, he, Byt.nil _ _, Below.refl _ _, (fun k h => by cases h), Nat.le_refl _, Nat.zero_le _, World.ownsRow_nil _ _ _ _⟩
  · exact clone_some ad ys c w hy hm

end Go.Proofs.Ytihkjdoajfjnpaa
