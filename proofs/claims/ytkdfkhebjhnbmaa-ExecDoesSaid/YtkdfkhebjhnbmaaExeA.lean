/- Package exec in plain words: runs in order; keys, and what they read as in a map. -/
import Derived.Test.YtkdfkhebjhnbmaaQueQ
import Derived.DeepKeys5
set_option linter.unusedSimpArgs false
set_option linter.unusedVariables false
namespace Go.Exe
open Go.Que
/-- A run's key. -/
structure Ky where
  job : ByteArray
  occ : Int
  host : Int
/-- A run, and the number by which it is queued. -/
structure Rn where
  key : Ky
  until_ : Int
  num : Int
def i64 (x : Int) : Prop := -9223372036854775808 ≤ x ∧ x ≤ 9223372036854775807
def kyfit (k : Ky) : Prop := k.job.size ≤ maxLen ∧ i64 k.occ ∧ i64 k.host
def ltR (a b : Rn) : Prop := a.until_ < b.until_ ∨ (a.until_ = b.until_ ∧ a.num < b.num)
def tmR (r : Rn) : Tm := ⟨r.until_, r.num, r.num⟩
def insR (r : Rn) : List Rn → List Rn
  | [] => [r]
  | a :: l => if a.until_ ≤ r.until_ then a :: insR r l else r :: a :: l
/-- What holds of an exec's runs. -/
structure Ok (slots started : Int) (L : List Rn) : Prop where
  room : 1 ≤ slots ∧ slots ≤ 65536
  few : (L.length : Int) ≤ slots
  asc : L.Pairwise ltR
  keys : ∀ a ∈ L, ∀ b ∈ L, a.key = b.key → a = b
  nums : ∀ a ∈ L, ∀ b ∈ L, a.num = b.num → a = b
  num : ∀ r ∈ L, 1 ≤ r.num ∧ r.num ≤ started
  fit : ∀ r ∈ L, kyfit r.key ∧ i64 r.until_
  pos : 0 ≤ started ∧ started < 4611686018427387904
theorem mem_insR {r a : Rn} {L : List Rn} : a ∈ insR r L ↔ a = r ∨ a ∈ L := by
  induction L with
  | nil => simp [insR]
  | cons b l ih =>
    unfold insR
    split
    · rw [List.mem_cons, ih, List.mem_cons]
      constructor
      · rintro (h | h | h)
        · exact .inr (.inl h)
        · exact .inl h
        · exact .inr (.inr h)
      · rintro (h | h | h)
        · exact .inr (.inl h)
        · exact .inl h
        · exact .inr (.inr h)
    · rw [List.mem_cons]
theorem len_insR (r : Rn) (L : List Rn) : (insR r L).length = L.length + 1 := by
  induction L with
  | nil => rfl
  | cons b l ih => unfold insR; split <;> simp [ih]
theorem asc_insR {r : Rn} {L : List Rn} (h : L.Pairwise ltR) (hn : ∀ a ∈ L, a.num < r.num) : (insR r L).Pairwise ltR := by
  induction L with
  | nil => simp [insR]
  | cons b l ih =>
    obtain ⟨h1, h2⟩ := List.pairwise_cons.1 h
    have hl := ih h2 (fun a ha => hn a (List.mem_cons_of_mem _ ha))
    have hb := hn b (List.mem_cons_self ..)
    unfold insR
    split
    · refine List.pairwise_cons.2 ⟨fun a ha => ?_, hl⟩
      rcases mem_insR.1 ha with rfl | ha
      · unfold ltR; omega
      · exact h1 a ha
    · refine List.pairwise_cons.2 ⟨fun a ha => ?_, h⟩
      rcases List.mem_cons.1 ha with rfl | ha
      · unfold ltR; omega
      · have := h1 a ha; unfold ltR at this ⊢; omega
/-- A run that is gone. -/
def del (L : List Rn) (n : Int) : List Rn := L.filter (fun r => r.num ≠ n)
theorem mem_del {L : List Rn} {n : Int} {a : Rn} : a ∈ del L n ↔ a ∈ L ∧ a.num ≠ n := by
  unfold del; rw [List.mem_filter]; simp
theorem len_del {L : List Rn} {r : Rn} (h : ∀ a ∈ L, a.num = r.num → a = r) (hp : L.Pairwise ltR) (hr : r ∈ L) : (del L r.num).length + 1 = L.length := by
  induction L with
  | nil => cases hr
  | cons b l ih =>
    obtain ⟨h1, h2⟩ := List.pairwise_cons.1 hp
    unfold del
    rw [List.filter_cons]
    by_cases e : b.num = r.num
    · have eb := h b (List.mem_cons_self ..) e
      rw [if_neg (by simp [e])]
      have : l.filter (fun x => decide (x.num ≠ r.num)) = l := by
        rw [List.filter_eq_self]
        intro a ha
        rw [decide_eq_true_eq]
        intro ea
        have e2 := h a (List.mem_cons_of_mem _ ha) ea
        have h3 := h1 a ha
        rw [e2, eb] at h3
        unfold ltR at h3; omega
      rw [this]; rfl
    · rw [if_pos (by simp [e])]
      have hr2 : r ∈ l := by
        rcases List.mem_cons.1 hr with rfl | h3
        · exact absurd rfl e
        · exact h3
      have := ih (fun a ha => h a (List.mem_cons_of_mem _ ha)) h2 hr2
      unfold del at this
      simp only [List.length_cons]
      omega
section
variable {slots started : Int} {L : List Rn}
theorem Ok.del (h : Ok slots started L) (n : Int) : Ok slots started (del L n) :=
  ⟨h.room, by have := List.length_filter_le (fun r : Rn => decide (r.num ≠ n)) L; have := h.few; unfold Exe.del; omega, h.asc.filter _, fun a ha b hb e => h.keys a (mem_del.1 ha).1 b (mem_del.1 hb).1 e, fun a ha b hb e => h.nums a (mem_del.1 ha).1 b (mem_del.1 hb).1 e,
    fun r hr => h.num r (mem_del.1 hr).1, fun r hr => h.fit r (mem_del.1 hr).1, h.pos⟩
theorem Ok.ins (h : Ok slots started L) {k : Ky} {u : Int} (hk : kyfit k) (hu : i64 u) (hn : ∀ r ∈ L, r.key ≠ k) (hl : (L.length : Int) < slots) (hs : started + 1 < 4611686018427387904) : Ok slots (started + 1) (insR ⟨k, u, started + 1⟩ L) := by
  refine ⟨h.room, by rw [len_insR]; omega, asc_insR h.asc (fun a ha => ?_), fun a ha b hb e => ?_, fun a ha b hb e => ?_, fun r hr => ?_, fun r hr => ?_, by have := h.pos; omega⟩
  · have := h.num a ha; show a.num < started + 1; omega
  · rcases mem_insR.1 ha with rfl | ha <;> rcases mem_insR.1 hb with rfl | hb
    · rfl
    · exact absurd e.symm (hn b hb)
    · exact absurd e (hn a ha)
    · exact h.keys a ha b hb e
  · rcases mem_insR.1 ha with rfl | ha <;> rcases mem_insR.1 hb with rfl | hb
    · rfl
    · have := h.num b hb; simp only at e; omega
    · have := h.num a ha; simp only at e; omega
    · exact h.nums a ha b hb e
  · rcases mem_insR.1 hr with rfl | hr
    · have := h.pos; constructor <;> simp only <;> omega
    · have := h.num r hr; omega
  · rcases mem_insR.1 hr with rfl | hr
    · exact ⟨hk, hu⟩
    · exact h.fit r hr
theorem Ok.tmfit (h : Ok slots started L) {r : Rn} (hr : r ∈ L) : i64 r.num := by
  have h1 := h.num r hr; have h2 := h.pos; unfold i64; omega
end
end Go.Exe
namespace Go.Proofs.Ytkdfkhebjhnbmaa
open Go.ChangeShapes Go.WideShapes Go.ChangeAt Go.RowKit Go.Base Go.Que Go.Exe

abbrev kyC (k : Ky) : List Value := [.string k.job, .int .i64 k.occ, .int .i64 k.host]
abbrev kyV (k : Ky) : Value := .agg #[.string k.job, .int .i64 k.occ, .int .i64 k.host]
abbrev goV (r : Rn) : Value := .agg #[.string r.key.job, .int .i64 r.key.occ, .int .i64 r.key.host, .int .i64 r.until_]
theorem laid_out : laidOutB Try.prog = true := by kernel_rfl
theorem row_key : 32 < Try.prog.types.size := of_decide_eq_true (by kernel_rfl)
theorem few_types : Try.prog.types.size + 2 ≤ 10000 := of_decide_eq_true (by kernel_rfl)
theorem key_key : Try.prog.keyType 32 = true := by kernel_rfl
theorem law_key : Maps.Keyed Try.prog 32 := Maps.Keyed.of_law (deep_law_gate laid_out few_types row_key key_key (by kernel_rfl))
theorem cells_key : Try.prog.cellsOf 32 = 3 := by kernel_rfl
theorem cells_str : Try.prog.cellsOf 9 = 1 := by kernel_rfl
theorem cells_int : Try.prog.cellsOf 3 = 1 := by kernel_rfl
theorem types_succ : ∃ m, Try.prog.types.size + 1 = m + 2 := ⟨Try.prog.types.size - 1, by have := row_key; omega⟩
theorem wf_i64 {a : Int} (h : i64 a) : (Lit.int .i64 a).wf = true := by
  exact WalkArith.wf_i64 h
theorem key_some {k : Ky} (h : kyfit k) : ∃ l, keyOf Try.prog 32 (kyV k) = some l := by
  obtain ⟨h1, h2, h3⟩ := h
  obtain ⟨m, hm⟩ := types_succ
  have hf : (kyV k).formed Try.prog 32 = true := by simp [Value.formed, Try.underlying32, cells_key]
  have w2 : (Lit.int .i64 k.occ).wf = true := wf_i64 h2
  have w3 : (Lit.int .i64 k.host).wf = true := wf_i64 h3
  unfold keyOf
  simp only [Try.underlying32, key_key, hf, Bool.and_self, if_true, hm]
  simp [Program.keyLits, Try.underlying32, Try.underlying9, Try.underlying3, cells_key, cells_str, cells_int, h1, w2, w3, Value.cells]
/-- What a key reads as. -/
noncomputable def kl (k : Ky) : Lit := (keyOf Try.prog 32 (kyV k)).getD (.bool false)
theorem kl_some {k : Ky} (h : kyfit k) : keyOf Try.prog 32 (kyV k) = some (kl k) := by
  obtain ⟨l, hl⟩ := key_some h
  unfold kl; rw [hl]; rfl
theorem kl_inj {a b : Ky} (ha : kyfit a) (hb : kyfit b) (e : kl a = kl b) : a = b := by
  have h1 := kl_some ha
  have h2 := kl_some hb
  rw [← e] at h2
  have h3 := law_key.inj h1 h2
  injection h3 with h3
  injection h3 with h3
  obtain ⟨j, o, g⟩ := a
  obtain ⟨j2, o2, g2⟩ := b
  simp at h3
  obtain ⟨rfl, rfl, rfl⟩ := h3
  rfl
theorem kl_key {k : Ky} (h : kyfit k) : WideAt.IsKeyLit (kl k) := law_key.key (kl_some h)
/-- Any value of one element, as it is. -/
def idE : Value → Option (DataW Value × List MemPlace) := fun v => some (.held v, [])
theorem idE_inv {v u : Value} {ps : List MemPlace} (h : idE v = some (.held u, ps)) : v = u := by
  unfold idE at h; injection h with h; injection h with h _; injection h with h
/-- A map's content: of each that is met its place and its value. -/
structure MapIs (D : DataW Value) (M : Rn → Prop) (n : Nat) (fk : Rn → Lit) (fv : Rn → Value) : Prop where
  tidy : Maps.Tidy D
  has : ∀ l, Maps.has D l = true ↔ ∃ r, M r ∧ fk r = l
  at_ : ∀ r, M r → ∀ z, D.atKey (fk r) z = .held (fv r)
  size : Maps.size D = n
section
variable {D : DataW Value} {M M' : Rn → Prop} {n m : Nat} {fk : Rn → Lit} {fv : Rn → Value}
theorem MapIs.none (fk : Rn → Lit) (fv : Rn → Value) : MapIs (.map []) (fun _ => False) 0 fk fv :=
  ⟨Maps.tidy_empty, fun l => ⟨(fun h => by cases h), (fun ⟨r, h, _⟩ => h.elim)⟩, fun r h => h.elim, rfl⟩
theorem MapIs.same (h : MapIs D M n fk fv) (e : ∀ r, M r ↔ M' r) : MapIs D M' n fk fv :=
  ⟨h.tidy, fun l => (h.has l).trans ⟨fun ⟨r, h1, h2⟩ => ⟨r, (e r).1 h1, h2⟩, fun ⟨r, h1, h2⟩ => ⟨r, (e r).2 h1, h2⟩⟩, fun r hr => h.at_ r ((e r).2 hr), h.size⟩
theorem MapIs.put (h : MapIs D M n fk fv) {r : Rn} (hr : WideAt.IsKeyLit (fk r)) (hn : ∀ a, M a → fk a ≠ fk r) : MapIs (D.put (fk r) (.held (fv r))) (fun a => a = r ∨ M a) (n + 1) fk fv := by
  have hh : Maps.has D (fk r) = false := by
    rw [Bool.eq_false_iff]; intro h3
    obtain ⟨a, ha, e⟩ := (h.has _).1 h3
    exact hn a ha e
  refine ⟨h.tidy.put hr _, fun l => ?_, fun a ha z => ?_, ?_⟩
  · by_cases e : l = fk r
    · subst e
      rw [Maps.has_put_same h.tidy.isMap hr]
      exact iff_of_true rfl ⟨r, .inl rfl, rfl⟩
    · rw [Maps.has_put_other e, h.has l]
      constructor
      · rintro ⟨a, ha, e2⟩; exact ⟨a, .inr ha, e2⟩
      · rintro ⟨a, rfl | ha, e2⟩
        · exact absurd e2.symm e
        · exact ⟨a, ha, e2⟩
  · rcases ha with rfl | ha
    · exact Maps.atKey_put_same h.tidy.isMap hr _ _
    · rw [Maps.atKey_put_other (hn a ha)]
      exact h.at_ a ha z
  · rw [Maps.size_put h.tidy, if_neg (by rw [hh]; simp), h.size]
theorem MapIs.del (h : MapIs D M (n + 1) fk fv) {r : Rn} (hr : M r) (ho : ∀ a, M a → fk a = fk r → a = r) : MapIs (D.del (fk r)) (fun a => M a ∧ a ≠ r) n fk fv := by
  refine ⟨h.tidy.del _, fun l => ?_, fun a ha z => ?_, ?_⟩
  · by_cases e : l = fk r
    · subst e
      rw [Maps.has_del_same]
      exact iff_of_false (by simp) (fun ⟨a, ⟨ha, hne⟩, e2⟩ => hne (ho a ha e2))
    · rw [Maps.has_del_other e, h.has l]
      constructor
      · rintro ⟨a, ha, e2⟩; exact ⟨a, ⟨ha, fun e3 => e (by rw [← e2, e3])⟩, e2⟩
      · rintro ⟨a, ⟨ha, _⟩, e2⟩; exact ⟨a, ha, e2⟩
  · rw [Maps.atKey_del_other (fun e => ha.2 (ho a ha.1 e))]
    exact h.at_ a ha.1 z
  · have h1 := Maps.size_del (k := fk r) h.tidy
    rw [if_pos ((h.has _).2 ⟨r, hr, rfl⟩), h.size] at h1
    omega
end
end Go.Proofs.Ytkdfkhebjhnbmaa
