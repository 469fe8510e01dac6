/- An entry of a map that is there, set in two steps ('m[a], m[b] = x, y'). No function of the program. -/
import Derived.Test.YtkdfkhebjhnbmaaMoved
import Derived.Maps.OwnSet
import Derived.Maps.OwnOps
import Derived.WideKeyEntry
set_option linter.unusedSimpArgs false
set_option linter.unusedVariables false
namespace Go.Proofs.Ytkdfkhebjhnbmaa
open Go.ChangeShapes Go.WideShapes Go.ChangeAt Go.RowKit Go.Base Go.MapKept Go.ChangeMaps
open Go.WideElems (Fit rd rg pl rd_val elemAt)
open Go.Maps (Keyed)

theorem setBlock_same {w : World} {b : Nat} {o : Obj} (h : w.heap[b]? = some o) : setBlock w b o = w := by
  unfold setBlock
  have : w.heap.setIfInBounds b o = w.heap := by
    apply Array.ext_getElem?
    intro i
    rw [Array.getElem?_setIfInBounds]
    by_cases e : b = i
    · subst e
      rw [if_pos rfl, if_pos (by rcases Nat.lt_or_ge b w.heap.size with h2 | h2; exact h2; rw [Array.getElem?_eq_none h2] at h; cases h)]
      exact h.symm
    · rw [if_neg e]
  rw [this]
theorem moved_setBlock (w : World) (b : Nat) (o : Obj) : Moved (fun k => k = b) w (setBlock w b o) :=
  ⟨rfl, rfl, rfl, by unfold setBlock; simp, fun k hk hn => by
    show (w.heap.setIfInBounds b o)[k]? = _
    rw [Array.getElem?_setIfInBounds, if_neg (fun e => hn e.symm)]⟩
section
variable {H : Type} {P : Program} {w : World} {t k e : TypeId} {R : Value → Option (DataW H × List MemPlace)} {b n : Nat} {D : DataW H}
/-- The map's size is a bound of its entries. -/
theorem own_exact (h : w.ownsMap P k R b n D) : w.ownsMap P k R b (Maps.size D) D := by
  obtain ⟨es, clock, hb, F, hs, rfl⟩ := h
  exact ⟨es, clock, hb, F, by simp [Maps.size, length_sorted], rfl⟩
theorem own_map_moved {q : Nat → Prop} {w' : World} (h : w.ownsMap P k R b n D) (hm : Moved q w w') (hn : ¬ q b) : w'.ownsMap P k R b n D := by
  obtain ⟨E, clock, hb, r⟩ := h
  exact ⟨E, clock, hm.heap hb hn, r⟩
/-- An entry that is there: its place is asked first; what is stored there then is as 'm[k] = v'. -/
theorem own_entry (h : w.ownsMap P k R b n D) (K : Keyed P k) (ht : P.underlying t = some (.map k e)) {key : Value} {kl : Lit} (hkey : keyOf P k key = some kl) (hz : ∃ z, (zeroValue e).run P w = .ok z w) (hh : Maps.has D kl = true) (hn : n < maxLen) :
    ∃ v0 st, (Instr.mapEntry t (.map (some b)) key).run P w = .ok (.tuple #[v0, goInt st]) w ∧
      ∀ (w2 : World) (val : Value) (d : DataW H) (ps : List MemPlace), w2.heap[b]? = w.heap[b]? → R val = some (d, ps) →
        ∃ w3, (Instr.entryStore t (.map (some b)) (goInt st) val).run P w2 = .ok () w3 ∧ w3.ownsMap P k R b (n + 1) (D.put kl d) ∧ Moved (fun k => k = b) w2 w3 := by
  obtain ⟨es, clock, hb, F, hs, hD⟩ := id h
  obtain ⟨z, hz⟩ := hz
  obtain ⟨s1, s2, _⟩ := F.stamped
  have hthere : ∃ x ∈ es.toList, x.key = key := by
    rcases Maps.fit_look true K ht hz hb F hkey with ⟨_, _, hat⟩ | ⟨e0, y, h1, h2, _⟩
    · rw [← hD] at hat
      rw [Maps.has_false_of_atKey hat] at hh; cases hh
    · exact ⟨e0, h1, h2⟩
  rcases K.find w hkey es.toList F.keys with ⟨_, h2⟩ | ⟨j, e0, h1, h2, h3⟩
  · obtain ⟨x, hx, e1⟩ := hthere
    exact absurd e1 (h2 x hx)
  have hj : es[j]? = some e0 := by simpa using h2
  have hsame : es.modify j (fun e => { e with key := key }) = es := by
    apply Array.ext'
    rw [Array.toList_modify, modify_eq_set _ _ _ _ h2, ← h3]
    exact WideElems.set_self _ _ _ h2
  refine ⟨e0.val, e0.born, ?_, fun w2 val d ps hw2 hR => ?_⟩
  · have : setBlock w b (.map es clock) = w := setBlock_same hb
    rw [← this]
    have hb2 : (setBlock w b (.map es clock)).heap[b]? = some (.map es clock) := by rw [this]; exact hb
    rw [this]
    conv => rhs; rw [← this]
    simp [Instr.mapEntry, run_underlying ht, MapKept.run_getObj_map hb, K.check w false hkey, h1, hj, h3, K.stays w hkey, hsame, MapKept.run_setObj_map _ hb, Result.andThen, setBlock]
  · rw [hb] at hw2
    have hidx : es.findIdx? (fun e => ((e.born : Nat) : Int) == ((e0.born : Nat) : Int)) = some j := by
      rw [WideElems.findIdx_arr]; exact WideElems.findIdx_born s2 h2
    have hmod : es.modify j (fun e => { e with val := val }) = es.modify j (fun e' => { e' with key := key, val := val }) := by
      apply Array.ext'
      rw [Array.toList_modify, Array.toList_modify, modify_eq_set _ _ _ _ h2, modify_eq_set _ _ _ _ h2, ← h3]
    have hup : (Instr.mapUpdate t (.map (some b)) key val).run P w = .ok () (setBlock w b (.map (es.modify j (fun e' => { e' with key := key, val := val })) clock)) := by
      simp [Instr.mapUpdate, run_underlying ht, MapKept.run_getObj_map hb, K.check w false hkey, h1, hj, h3, K.stays w hkey, MapKept.run_setObj_map _ hb, Result.andThen, setBlock]
    obtain ⟨w', hrun, how, _⟩ := h.update K ht hn hkey hR
    rw [hup] at hrun
    injection hrun with _ hw'
    refine ⟨setBlock w2 b (.map (es.modify j (fun e' => { e' with key := key, val := val })) clock), ?_, ?_, moved_setBlock _ _ _⟩
    · simp [Instr.entryStore, MapKept.run_getObj_map hw2, asInt, asIntOf, goInt, hidx, hmod, MapKept.run_setObj_map _ hw2, Result.andThen, setBlock]
    · rw [← hw'] at how
      obtain ⟨E, c2, hbE, r⟩ := how
      refine ⟨E, c2, ?_, r⟩
      rw [heap_setBlock_same hb] at hbE
      rw [heap_setBlock_same hw2]; exact hbE
end
end Go.Proofs.Ytkdfkhebjhnbmaa
