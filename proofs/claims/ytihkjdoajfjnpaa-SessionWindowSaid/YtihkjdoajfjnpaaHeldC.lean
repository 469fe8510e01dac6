/- As HeldZ: an operation taken that the last one waits for by way of others. -/
import Derived.Test.YtihkjdoajfjnpaaHeldZ
set_option linter.unusedVariables false
namespace Go
section
variable {P : Program} {ops : Array Oper} {Q : Exit → Act → World → Prop} {md : Region.Mode} {S : World → Prop} {z : Nat}
/-- While operation i and those of c are not listed, neither z nor those of c come up: each waits for one of these. -/
def waitsC (md : Region.Mode) (ops : Array Oper) (i : Nat) (c : List Nat) (k : Nat) : Bool := match ops[k]? with
  | some ok => ok.after.any (fun e => Region.binds md e && (e.on == i || c.contains e.on))
  | none => false
def unlisted (listed : Array Bool) (c : List Nat) : Bool := c.all (fun k => !(listed.getD k true))
theorem waitsC_spec {i k : Nat} {c : List Nat} (h : waitsC md ops i c k = true) {listed : Array Bool} (hi : listed.getD i true = false) (hc : ∀ j ∈ c, listed.getD j true = false) : k ∉ Region.ready md ops listed := by
  intro hr
  unfold waitsC at h
  obtain ⟨_, ok, hok, hall⟩ := mem_ready.1 hr
  rw [hok] at h
  simp only [Array.any_eq_true, Bool.and_eq_true, Bool.or_eq_true, beq_iff_eq, List.contains_iff_mem] at h
  obtain ⟨j, hj, hb, he⟩ := h
  have h1 := hall _ (Array.getElem_mem hj) hb
  have h0 : listed.getD (ok.after[j]).on true = false := by
    rcases he with he | he
    · rw [he]; exact hi
    · exact hc _ he
  rcases Nat.lt_or_ge (ok.after[j]).on listed.size with h' | h'
  · simp [h'] at h0 h1; rw [h0] at h1; cases h1
  · simp [Array.getElem?_eq_none h'] at h1

theorem wpAnyZ_firstC {i : Nat} {oi : Oper} {v : Value} (hi : ops[i]? = some oi) (hsel : ∀ (j : Nat) (o : Oper) cs b, ops[j]? = some o → o.op ≠ .select cs b)
    (hQ : ∀ c a w, Q (.panic c) (a.put oi.dst v) w → Q (.panic c) a w) {c : List Nat} (hz : waitsC md ops i c z = true) (hcs : ∀ k ∈ c, waitsC md ops i c k = true) :
    ∀ (fuel : Nat) (listed : Array Bool) (a : Act) (w : World),
      (∀ j oj, ops[j]? = some oj → j ≠ i → listed.getD j true = false → (∀ e ∈ oj.after, Region.binds md e = true → e.on ≠ i) → oi.apart ops oj = true) →
      (∀ k ∈ c, listed.getD k true = false) → i ∈ Region.ready md ops listed → YieldsIf P ops S oi v a → S w →
      wpAnyZ P md ops Q S z fuel (listed.setIfInBounds i true) (a.put oi.dst v) w → wpAnyZ P md ops Q S z (fuel + 1) listed a w := by
  intro fuel
  induction fuel with
  | zero =>
    intro listed a w _ hun hr hy hS H
    refine ⟨fun h => (by rw [h] at hr; cases hr), fun j hj => ?_⟩
    by_cases hji : j = i
    · subst hji; exact hy.wpOp hi hS ⟨.inr hS, H⟩
    · have := ready_mono hj hji
      rw [H.1] at this
      cases this
  | succ fuel ih =>
    intro listed a w hfree huc hr hy hS H
    refine ⟨fun h => (by rw [h] at hr; cases hr), fun j hj => ?_⟩
    by_cases hji : j = i
    · subst hji; exact hy.wpOp hi hS ⟨.inr hS, H⟩
    · have hiu : listed.getD i true = false := (mem_ready.1 hr).1
      have hjz : j ≠ z := fun e => waitsC_spec hz hiu huc (e ▸ hj)
      have hjc : ∀ k ∈ c, j ≠ k := fun k hk e => waitsC_spec (hcs k hk) hiu huc (e ▸ hj)
      have h1 := H.2 j (ready_mono hj hji)
      obtain ⟨hjun, oj, hoj, hall⟩ := mem_ready.1 hj
      have hnot : ∀ e ∈ oj.after, Region.binds md e = true → e.on ≠ i := fun e he hb heq => by
        have h1 := hall e he hb
        have h0 := (mem_ready.1 hr).1
        rw [heq] at h1
        rcases Nat.lt_or_ge i listed.size with h' | h'
        · simp [h'] at h0 h1; rw [h0] at h1; cases h1
        · simp [Array.getElem?_eq_none h'] at h1
      have h2 := wpOp_putIf hoj (hfree j oj hoj hji hjun hnot) (fun cs b => hsel i oi cs b hi) (fun cs b => hsel j oj cs b hoj) hQ hy h1
      have hfree' : ∀ k ok, ops[k]? = some ok → k ≠ i → (listed.setIfInBounds j true).getD k true = false →
          (∀ e ∈ ok.after, Region.binds md e = true → e.on ≠ i) → oi.apart ops ok = true := fun k ok hk hki hun hno => by
        refine hfree k ok hk hki ?_ hno
        by_cases hjk : j = k
        · subst hjk; exact hjun
        · rw [getD_set_ne true hjk] at hun; exact hun
      refine wpOp_mono (fun a' w' h3 => ?_) h2
      have hS' := h3.2.1.resolve_left hjz
      refine ⟨.inr hS', ih (listed.setIfInBounds j true) a' w' hfree' (fun k hk => by rw [getD_set_ne true (hjc k hk)]; exact huc k hk) (ready_mono hr (Ne.symm hji)) h3.1 hS' ?_⟩
      rw [Array.setIfInBounds_comm _ _ hji]
      exact h3.2.2

theorem wpAnyZ_takeC (c : List Nat) {i : Nat} {oi : Oper} {v : Value} {fuel : Nat} {listed : Array Bool} {a : Act} {w : World} (hi : ops[i]? = some oi)
    (hs : Region.noSelect ops = true) (hf : (Region.free md ops listed i && (waitsC md ops i c z && (c.all (waitsC md ops i c) && unlisted listed c))) = true) (hr : (Region.ready md ops listed).contains i = true)
    (hQ : ∀ c a w, Q (.panic c) (a.put oi.dst v) w → Q (.panic c) a w) (hy : YieldsIf P ops S oi v a) (hS : S w)
    (h : wpAnyZ P md ops Q S z fuel (listed.setIfInBounds i true) (a.put oi.dst v) w) : wpAnyZ P md ops Q S z (fuel + 1) listed a w := by
  unfold unlisted at hf
  rw [Bool.and_eq_true, Bool.and_eq_true, Bool.and_eq_true] at hf
  exact wpAnyZ_firstC hi (Region.noSelect_spec hs) hQ hf.2.1 (fun k hk => List.all_eq_true.1 hf.2.2.1 k hk) fuel listed a w (Region.free_spec hi hf.1) (fun k hk => by have := List.all_eq_true.1 hf.2.2.2 k hk; simpa using this) (by simpa using hr) hy hS h

end
end Go
