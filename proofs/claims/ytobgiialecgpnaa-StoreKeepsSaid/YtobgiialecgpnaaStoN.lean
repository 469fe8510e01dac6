/- Package store: slices.Sorted(maps.Keys(m)) at a map of files; names. -/
import Derived.Test.YtobgiialecgpnaaLaid
import Derived.Test.YtobgiialecgpnaaStoC
import Derived.Sort.OwnSorted
set_option linter.unusedSimpArgs false
set_option linter.unusedVariables false
namespace Go.Proofs.Ytobgiialecgpnaa
open Go.ChangeShapes Go.WideShapes Go.ChangeAt Go.RowKit Go.Base Go.Sto Go.Maps Go.Sort Go.Shelf

theorem own_wide {w : World} {b b' n s : Nat} {e : TypeId} {v : Value} {xs : List Value} (h : w.ownsRow b e s v n xs) (hb : b' ≤ b) : w.ownsRow b' e s v n xs := by
  refine ⟨h.1, ?_⟩
  rcases h.2 with h2 | ⟨g, cap, cur, hv, hg, r⟩
  · exact .inl h2
  · exact .inr ⟨g, cap, cur, hv, Nat.le_trans hb hg, r⟩
theorem sortsNames (m : Nat) : AnyZ.SortsIn Try.prog Try.sorted48_ren Fence.wide m :=
  ⟨fun blk off cap ss W hH hblk hsz => callsIn_wide.2 (AnyM.slices_Sort_string Try.sort62 blk off cap ss W hH hblk hsz),
   fun p cap W => callsIn_wide.2 (AnyM.slices_Sort_string_none Try.sort62 p cap W)⟩
/-- maps.Keys at a map of files: a function value over one new block, which holds the map. -/
theorem keys_in (mb : Option Nat) (W : World) : CallsIn Fence.wide 5 Try.prog 49 #[.map mb] W fun e w' => e = .returned (.func (.func 63) #[] #[.pointer (some ⟨W.heap.size, 0, none⟩)]) ∧ w' = W.alloc (.cells #[.map mb] 56) :=
  AnyZ.keys_in Try.keys49 Fence.wide 5 trivial rfl mb W
set_option maxHeartbeats 1000000 in
/-- slices.Sorted at what that handed back: the keys, rising, in a row of the call's own. -/
theorem sorted_in {H : Type} (b nn : Nat) (D0 : DataW H) (R : Value → Option (DataW H × List MemPlace)) (w : World) (hown : w.ownsMap Try.prog 9 R b nn D0) (hmax : Maps.size D0 ≤ maxLen) (hbytes : Maps.size D0 * 16 ≤ 140737488355328) :
    CallsIn Fence.wide 5 Try.prog 48 #[.func (.func 63) #[] #[.pointer (some ⟨w.heap.size, 0, none⟩)]] (w.alloc (.cells #[.map (some b)] 56)) fun e w' => ∃ (v : Value) (ss : List (List UInt8)), e = .returned v ∧ ss.Perm (strKeys D0) ∧
      w'.ownsRow (w.alloc (.cells #[.map (some b)] 56)).heap.size 9 1 v ss.length ((ss.mergeSort (fun x y => decide (x ≤ y))).map encStr) ∧ (v = .slice none 0 0 ↔ ss = []) ∧ Below (w.alloc (.cells #[.map (some b)] 56)).heap.size (w.alloc (.cells #[.map (some b)] 56)) w' := by
  have hbl := hown.lt
  have hseq : SeqGives Fence.wide 2 Try.prog 63 #[.pointer (some ⟨w.heap.size, 0, none⟩)] encStr (fun ss => ss.Perm (strKeys D0)) (Maps.size D0) (w.alloc (.cells #[.map (some b)] 56)) :=
    AnyZ.keys_gives (ρ := Try.keys49_ren) { Try.keys49 with } Fence.wide _ trivial rfl (by omega) w.heap.size b nn D0 _ (by simp) (by simp) (by
      obtain ⟨es, clock, hb, Ft, hs, hD⟩ := hown
      exact ⟨es, clock, (Below.heap_alloc _ _ b hbl).trans hb, Ft, hs, hD⟩)
  exact AnyZ.sorted_in Try.sorted48 Fence.wide 5 trivial trivial trivial trivial rfl (by omega) (sortsNames _) (enters_of Try.func62 (by kernel_rfl) rfl) 63 #[.pointer (some ⟨w.heap.size, 0, none⟩)] trivial (enters_of Try.func63 (by kernel_rfl) rfl) _ _ hmax hbytes _ hseq
theorem law_str : Keyed Try.prog 9 := string_keyed Try.underlying9
/-- The names of the files, rising, are the map's keys. -/
theorem names_perm {w : World} {F : Nat → Prop} {p bm : Nat} {D : DataW Unit} {es : List Ent} {room : Nat} {left : Int} (h : StoX w F p bm D es room left) : (es.map (·.f.name)).Perm (strKeys D) := by
  obtain ⟨l, hD, hp, _⟩ := h.map.entries law_str
  obtain ⟨l2, hD2, hk⟩ := h.map.keysOf
  have hh := h.has
  rw [hD] at hh hD2 ⊢
  injection hD2 with hD2
  subst hD2
  refine perm_strKeys hp (fun q hq => ?_) ?_ (fun x => ?_)
  · obtain ⟨v, hv⟩ := hk q hq
    obtain ⟨x, _, e, _⟩ := Maps.keyOf_str Try.underlying9 hv
    exact ⟨x, e⟩
  · have := h.rising
    unfold Rising at this
    rw [List.pairwise_map] at this
    exact List.pairwise_map.2 (this.imp fun {a b} hlt => fun e => lt_irr b.f.name (by rw [e] at hlt; exact hlt))
  · rw [hh x]; simp
theorem sort_rising {l : List (List UInt8)} (h : l.Pairwise (fun a b => a < b)) : l.mergeSort leB = l := by
  have tr : ∀ a b c : List UInt8, leB a b = true → leB b c = true → leB a c = true := fun a b c h1 h2 => by simp only [leB, decide_eq_true_eq] at *; exact List.le_trans h1 h2
  have to : ∀ a b : List UInt8, (leB a b || leB b a) = true := fun a b => by simp only [leB, Bool.or_eq_true, decide_eq_true_eq]; exact List.le_total a b
  refine List.Perm.eq_of_pairwise (le := fun a b => leB a b = true) (fun a b _ _ h1 h2 => ?_) (List.pairwise_mergeSort tr to l) (h.imp fun hlt => ?_) (List.mergeSort_perm l leB)
  · simp only [leB, decide_eq_true_eq] at h1 h2
    exact List.le_antisymm h1 h2
  · simp only [leB, decide_eq_true_eq]; exact List.le_of_lt hlt
def NamesPost (ns : List (List UInt8)) (w : World) (e : Ending) (w' : World) : Prop :=
  ∃ A c, e = .returned (.slice A ns.length c) ∧ w'.ownsRow w.heap.size 9 1 (.slice A ns.length c) ns.length (ns.map encStr) ∧ Below w.heap.size w w'
theorem names_any {w : World} {F : Nat → Prop} {p bm : Nat} {D : DataW Unit} {es : List Ent} {room : Nat} {left : Int} (h : StoX w F p bm D es room left) :
    Calls Try.prog 23 #[.pointer (some ⟨p, 0, none⟩)] w (NamesPost (es.map (·.f.name)) w) := by
  have h64 := h.few
  have hsz := h.size
  have HK := Lib.hid (callsIn_wide.1 (keys_in (some bm) w))
  have HS := Lib.hid (callsIn_wide.1 (sorted_in bm (Maps.size D) D ptrE w h.map (by unfold maxLen; omega) (by omega)))
  have HP := Lib.hid (names_perm h)
  have HR : Hid ((es.map (·.f.name)).mergeSort leB = es.map (·.f.name)) := Lib.hid (sort_rising (by
    have := h.rising
    unfold Rising at this
    rw [List.pairwise_map] at this ⊢
    exact this))
  obtain ⟨c0, c1, c2⟩ := h.cells
  clear h h64 hsz
  generalize es.map (·.f.name) = ns at *
  go_enter Try.func23, Try.ntmps23
  go_wp2_with (first
    | (go_at_call 49; refine Calls.mono (by with_reducible exact HK.out) ?_; rintro e w1 ⟨rfl, rfl⟩)
    | (go_at_call 48; refine Calls.mono (by with_reducible exact HS.out) ?_; rintro e w2 ⟨v, ss, rfl, hpm, hrow, _, hb⟩; have HV := Lib.hid hrow; have HPm := Lib.hid hpm; have HB := Lib.hid ((below_alloc w _).trans (hb.mono (below_alloc w _).size)); clear hpm hrow hb))
  go_ret
  have e1 : ss.mergeSort leB = ns := by rw [mergeSort_of_perm (HPm.out.trans HP.out.symm), HR.out]
  have hrow := HV.out
  rw [show (ss.mergeSort fun x y => decide (x ≤ y)) = ns from e1, (HPm.out.trans HP.out.symm).length_eq] at hrow
  obtain ⟨A, c, rfl⟩ : ∃ A c, v = .slice A ns.length c := by
    rcases hrow.2 with ⟨rfl, h0⟩ | ⟨g, cap, cur, rfl, _⟩
    · exact ⟨none, 0, by rw [h0]⟩
    · exact ⟨_, _, rfl⟩
  exact ⟨A, c, rfl, own_wide hrow (by simp), HB.out⟩
end Go.Proofs.Ytobgiialecgpnaa
