/- Walks of package store: Sync, Cut, Remove, Rename as the chapter has them. -/
import Derived.Test.YtobgiialecgpnaaStoH
set_option linter.unusedSimpArgs false
set_option linter.unusedVariables false
namespace Go.Sto
/-- A call that does something to the file of a name: its error's number, and the store. -/
def stepF (st : St) (ok : Bool) (s : List UInt8) (k : Fil → List Fil) : Nat × St :=
  if ok = true then
    if st.left = 0 then (70, st) else
      match look st.files s with
      | none => (4, st)
      | some f => (0, ⟨k f, st.room, wear st.left⟩)
  else (1, st)
def syncR (st : St) (s : List UInt8) : Nat × St := stepF st (okName s) s (fun f => ins ⟨f.name, f.bytes, f.bytes.length, true⟩ st.files)
def cutR (st : St) (s : List UInt8) (z : Int) : Nat × St := stepF st (okName s && decide (0 ≤ z)) s (fun f => ins ⟨f.name, f.bytes.take z.toNat, min f.sure (min z.toNat f.bytes.length), true⟩ st.files)
def removeR (st : St) (s : List UInt8) : Nat × St := stepF st (okName s) s (fun f => del s st.files)
def renameR (st : St) (s t : List UInt8) : Nat × St := stepF st (okName s && okName t) s (fun f => ins ⟨t, f.bytes, f.bytes.length, true⟩ (del s st.files))
end Go.Sto
namespace Go.Proofs.Ytobgiialecgpnaa
open Go.ChangeShapes Go.WideShapes Go.ChangeAt Go.RowKit Go.Base Go.Sto Go.Maps

/-- What a call of a store leaves: an error's number and the store anew; else only new blocks. -/
def StepPost (F G : Nat → Prop) (p : Nat) (r : Nat × St) (w : World) (e : Ending) (w' : World) : Prop :=
  e = .returned (.int .i64 (r.1 : Int)) ∧ Sto w' G p r.2 ∧ Moved F w w'
theorem look_cases {es : List Ent} (hr : Rising (es.map (·.f))) (s : List UInt8) : (Sto.look (es.map (·.f)) s = none ∧ ∀ e ∈ es, e.f.name ≠ s) ∨ ∃ e ∈ es, e.f.name = s ∧ Sto.look (es.map (·.f)) s = some e.f := by
  rcases hl : Sto.look (es.map (·.f)) s with _ | f
  · exact .inl ⟨hl, fun e he => look_none hl e.f (List.mem_map.2 ⟨e, he, rfl⟩)⟩
  · obtain ⟨h1, h2⟩ := look_mem hl
    obtain ⟨e, he, rfl⟩ := List.mem_map.1 h1
    exact .inr ⟨e, he, h2, hl⟩
section
variable {w w' : World} {F G : Nat → Prop} {p bm : Nat} {D : DataW Unit} {es : List Ent} {room : Nat} {left : Int}
theorem change_any {st : St} (h : StoX w F p bm D es st.room st.left) (hes : es.map (·.f) = st.files) (hG : ∀ k, F k → G k) (s : ByteArray) (hs : s.size ≤ maxLen) (ok : Bool) (fv : Value) (k : Fil → List Fil)
    (hsome : ∀ e ∈ es, e.f.name = s.data.toList → st.left ≠ 0 → Calls Try.prog 40 #[.pointer (some ⟨p, 0, none⟩), .string s, .bool true, fv] w (StepPost F G p (0, ⟨k e.f, st.room, wear st.left⟩) w)) :
    Calls Try.prog 40 #[.pointer (some ⟨p, 0, none⟩), .string s, .bool ok, fv] w (StepPost F G p (stepF st ok s.data.toList k) w) := by
  have hst : ∀ w', w = w' → Sto w' G p st ∧ Moved F w w' := fun w' e => by subst e; exact ⟨⟨bm, D, es, h.wide hG, hes⟩, Moved.refl _ _⟩
  unfold stepF
  cases ok
  · rw [if_neg (by simp)]
    exact (change_bad h s false fv 1 rfl (by omega)).mono fun e w' ⟨he, hw⟩ => ⟨he, hst w' hw⟩
  · rw [if_pos rfl]
    by_cases hl : st.left = 0
    · rw [if_pos hl]
      exact (change_bad h s true fv 70 (by rw [if_pos rfl, if_pos hl]) (by omega)).mono fun e w' ⟨he, hw⟩ => ⟨he, hst w' hw⟩
    · rw [if_neg hl, ← hes]
      rcases look_cases h.rising s.data.toList with ⟨h1, h2⟩ | ⟨e, he, hn, h1⟩
      · rw [h1]
        exact (change_none h s hs fv hl h2).mono fun e w' ⟨he, hw⟩ => ⟨he, hst w' hw⟩
      · rw [h1]
        exact hsome e he hn hl
theorem sync_any {st : St} (h : Sto w F p st) (s : ByteArray) (hs : s.size ≤ maxLen) :
    Calls Try.prog 15 #[.pointer (some ⟨p, 0, none⟩), .string s] w (StepPost F (fun k => F k ∨ w.heap.size ≤ k) p (syncR st s.data.toList) w) := by
  obtain ⟨bm, D, es, hx, hes⟩ := h
  have hb := below_alloc w (.cells #[.string s] 9)
  have hx1 := hx.later hb
  have HM := Lib.hid (mayBe_one s hs w)
  have HC : Hid (Calls Try.prog 40 #[.pointer (some ⟨p, 0, none⟩), .string s, .bool (okS s), .func (.func 41) #[] #[]] (w.alloc (.cells #[.string s] 9)) (StepPost F (fun k => F k ∨ w.heap.size ≤ k) p (syncR st s.data.toList) (w.alloc (.cells #[.string s] 9)))) := Lib.hid (by
    refine change_any hx1 hes (fun k h => .inl h) s hs (okS s) _ _ (fun e he hn hl => ?_)
    refine (change_sync hx1 s hs hl he hn).mono fun e' w' ⟨h1, h2, h3, _⟩ => ⟨h1, ⟨bm, D, _, h2.wide (fun k h => .inl h), ?_⟩, h3.weaken (fun k _ h => ?_)⟩
    · rw [map_insE, hes, List.take_length]
    · rcases h with rfl | rfl
      · exact (hx.inF.2.2 e he).1
      · exact hx.inF.1)
  have HB := Lib.hid hb
  generalize syncR st s.data.toList = r at *
  clear hx hx1 hb hs
  go_enter Try.func15, Try.ntmps15
  go_wp2_with (first
    | (go_at_call 26; refine Calls.mono (by with_reducible exact HM.out) ?_; rintro e w1 ⟨rfl, rfl⟩)
    | (go_at_call 40; refine Calls.mono (by with_reducible exact HC.out) ?_; rintro e w2 ⟨rfl, hst, hm⟩; have HS := Lib.hid hst; have HM2 := Lib.hid hm; clear hst hm))
  go_ret
  exact ⟨rfl, HS.out, (Below.movedNew HB.out).trans HM2.out (fun _ _ h => h)⟩
end
end Go.Proofs.Ytobgiialecgpnaa
