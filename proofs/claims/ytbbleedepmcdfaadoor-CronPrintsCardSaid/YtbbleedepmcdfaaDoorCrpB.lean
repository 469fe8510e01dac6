/- Of lists of items: what a field says that is two, a comma between. No walk but of the law's 'with'. -/
import Derived.Test.YtbbleedepmcdfaaDoorCrpA
set_option linter.unusedSimpArgs false
set_option linter.unusedVariables false
namespace Go.Proofs.YtbbleedepmcdfaaDoor
open Go.ChangeShapes Go.WideShapes Go.ChangeAt Go.RowKit Go.Base Go.Cro Go.Civ

theorem splitB_mid (p : UInt8 → Bool) (c : UInt8) (r : Bytes) (hc : p c = true) : ∀ a : Bytes, splitB p (a ++ c :: r) = splitB p a ++ splitB p r
  | [] => by simp only [List.nil_append, splitB]; rw [if_pos hc]; rfl
  | x :: a => by
    have ih := splitB_mid p c r hc a
    simp only [List.cons_append, splitB]
    by_cases hx : p x = true
    · rw [if_pos hx, if_pos hx, ih]; rfl
    · rw [if_neg hx, if_neg hx, ih]
      cases hs : splitB p a with
      | nil => exact absurd hs (splitB_ne _ _)
      | cons y ys => rfl
theorem u64_or_assoc {a b c : Int} (ha : U64 a) (hb : U64 b) (hc : U64 c) : bits .or .u64 (bits .or .u64 a b) c = bits .or .u64 a (bits .or .u64 b c) := by
  have hab := u64_bd ha hb
  have hbc := u64_bd hb hc
  rw [u64_or _ c hab.1 (by have := hab.2; omega) hc.1 (by have := hc.2; omega), u64_or a _ ha.1 (by have := ha.2; omega) hbc.1 (by have := hbc.2; omega),
    u64_or a b ha.1 (by have := ha.2; omega) hb.1 (by have := hb.2; omega), u64_or b c hb.1 (by have := hb.2; omega) hc.1 (by have := hc.2; omega)]
  simp only [Int.toNat_natCast, Nat.or_assoc]
theorem itVals_bd (it : It) (s : Sc) : U64 (itValsB it s) := by
  unfold itValsB valsB
  split
  · exact valsFrom_bd _ _ _ _ _ _ _ ⟨by decide, by decide⟩
  · split
    · exact valsFrom_bd _ _ _ _ _ _ _ ⟨by decide, by decide⟩
    · exact valsFrom_bd _ _ _ _ _ _ _ ⟨by decide, by decide⟩
theorem fieldFrom_bd (rd : Bytes → Option Int) (s : Sc) : ∀ (xs : List Bytes) (b : Int) (st : Bool) (m : Int × Bool), U64 b → fieldFrom rd s xs b st = .ok m → U64 m.1
  | [], b, st, m, hb, h => by cases h; exact hb
  | x :: r, b, st, m, hb, h => by
    simp only [fieldFrom] at h
    split at h
    · cases h
    · split at h
      · exact fieldFrom_bd rd s r _ _ m (u64_bd hb (itVals_bd _ _)) h
      · cases h
/-- What came ahead is added. -/
theorem fieldFrom_add (rd : Bytes → Option Int) (s : Sc) : ∀ (xs : List Bytes) (b c : Int) (st t : Bool), U64 b → U64 c →
    fieldFrom rd s xs (bits .or .u64 b c) (st || t) = match fieldFrom rd s xs c t with
      | .error e => .error e
      | .ok m => .ok (bits .or .u64 b m.1, st || m.2)
  | [], b, c, st, t, hb, hc => rfl
  | x :: r, b, c, st, t, hb, hc => by
    simp only [fieldFrom]
    cases hi : itemB rd x with
    | none => rfl
    | some it =>
      simp only
      by_cases hw : withinB it s = true
      · rw [if_pos hw, if_pos hw, u64_or_assoc hb hc (itVals_bd _ _), Bool.or_assoc]
        exact fieldFrom_add rd s r b _ st _ hb (u64_bd hc (itVals_bd _ _))
      · rw [if_neg hw, if_neg hw]
theorem or_zero_right {a : Int} (h : U64 a) : bits .or .u64 a 0 = a := by
  have := u64_or a 0 h.1 (by have := h.2; omega) (by omega) (by decide)
  rw [this]
  have := h.1
  simp; omega
theorem fieldB_two (k : Nat) (a b : Bytes) : fieldB k (a ++ 44 :: b) = match fieldB k a with
    | .error e => .error e
    | .ok m => match fieldB k b with
      | .error e => .error e
      | .ok n => .ok (bits .or .u64 m.1 n.1, m.2 || n.2) := by
  unfold fieldB
  rw [splitB_mid commaB 44 b rfl a, fieldFrom_append]
  cases ha : fieldFrom (rdB k) (scB k) (splitB commaB a) 0 false with
  | error e => rfl
  | ok m =>
    have hm := fieldFrom_bd _ _ _ _ _ m ⟨by decide, by decide⟩ ha
    simp only
    have := fieldFrom_add (rdB k) (scB k) (splitB commaB b) m.1 0 m.2 false hm ⟨by decide, by decide⟩
    rw [or_zero_right hm, Bool.or_false] at this
    rw [← this]

/-- A text whose field k is f; the others are 1. -/
def wpre (k : Nat) (f : Bytes) (n : Nat) : Bytes := (List.range n).flatMap fun i => (if i = k then f else [49]) ++ [32]
def withB (k : Nat) (f : Bytes) : Bytes := wpre k f 5
theorem wpre_succ (k : Nat) (f : Bytes) (n : Nat) : wpre k f (n + 1) = wpre k f n ++ ((if n = k then f else [49]) ++ [32]) := by
  unfold wpre; rw [List.range_succ, List.flatMap_append]; simp
theorem wpre_len (k : Nat) (f : Bytes) : ∀ n, (wpre k f n).length ≤ n * (f.length + 2)
  | 0 => by simp [wpre]
  | n + 1 => by
    have := wpre_len k f n
    rw [wpre_succ, List.length_append, List.length_append, Nat.add_mul]
    split <;> simp <;> omega
theorem blank_one : ∀ b ∈ ([49] : Bytes), blankB b = false := by decide
theorem with_fields (k : Nat) (f : Bytes) (hf : f ≠ []) (hb : ∀ b ∈ f, blankB b = false) : fieldsB (withB k f) = (List.range 5).map fun i => if i = k then f else [49] := by
  have hg : ∀ i : Nat, ∀ b ∈ (if i = k then f else [49]), blankB b = false := by
    intro i; split
    · exact hb
    · exact blank_one
  have hn : ∀ i : Nat, (if i = k then f else [49]) ≠ [] := by
    intro i; split
    · exact hf
    · simp
  have e : withB k f = (if 0 = k then f else [49]) ++ 32 :: ((if 1 = k then f else [49]) ++ 32 :: ((if 2 = k then f else [49]) ++ 32 :: ((if 3 = k then f else [49]) ++ 32 :: ((if 4 = k then f else [49]) ++ 32 :: [])))) := by
    unfold withB wpre
    simp [List.range, List.range.loop]
  have n0 := hn 0; have n1 := hn 1; have n2 := hn 2; have n3 := hn 3; have n4 := hn 4
  have g0 := hg 0; have g1 := hg 1; have g2 := hg 2; have g3 := hg 3; have g4 := hg 4
  unfold fieldsB
  rw [e]
  simp only [List.range, List.range.loop, List.map_cons, List.map_nil]
  generalize (if 0 = k then f else [49]) = a0 at *
  generalize (if 1 = k then f else [49]) = a1 at *
  generalize (if 2 = k then f else [49]) = a2 at *
  generalize (if 3 = k then f else [49]) = a3 at *
  generalize (if 4 = k then f else [49]) = a4 at *
  rw [splitB_app blankB 32 _ rfl _ g0, splitB_app blankB 32 _ rfl _ g1, splitB_app blankB 32 _ rfl _ g2, splitB_app blankB 32 _ rfl _ g3, splitB_app blankB 32 _ rfl _ g4]
  simp [splitB, n0, n1, n2, n3, n4]
theorem one_field : fieldB 0 [49] = .ok (2, false) ∧ fieldB 1 [49] = .ok (2, false) ∧ fieldB 2 [49] = .ok (2, false) ∧ fieldB 3 [49] = .ok (2, false) ∧ fieldB 4 [49] = .ok (2, false) := ⟨by kernel_rfl, by kernel_rfl, by kernel_rfl, by kernel_rfl, by kernel_rfl⟩
theorem with_parse (k : Nat) (hk : k < 5) (f : Bytes) (hf : f ≠ []) (hb : ∀ b ∈ f, blankB b = false) (hl : f.length ≤ 201) :
    parseB (withB k f) = match fieldB k f with
      | .error e => .error (e, k)
      | .ok m => .ok ((List.range 5).map fun i => if i = k then m else (2, false)) := by
  have hlen : (withB k f).length ≤ 256 := by
    unfold withB wpre
    simp only [List.range, List.range.loop, List.flatMap_cons, List.flatMap_nil, List.length_append, List.length_cons, List.length_nil]
    rcases k with _ | _ | _ | _ | _ | k <;> simp <;> omega
  obtain ⟨o0, o1, o2, o3, o4⟩ := one_field
  unfold parseB
  rw [if_neg (by omega), with_fields k f hf hb]
  simp only [List.range, List.range.loop, List.map_cons, List.map_nil]
  rcases k with _ | _ | _ | _ | _ | k
  · cases h : fieldB 0 f <;> simp [parseFrom, h, o0, o1, o2, o3, o4]
  · cases h : fieldB 1 f <;> simp [parseFrom, h, o0, o1, o2, o3, o4]
  · cases h : fieldB 2 f <;> simp [parseFrom, h, o0, o1, o2, o3, o4]
  · cases h : fieldB 3 f <;> simp [parseFrom, h, o0, o1, o2, o3, o4]
  · cases h : fieldB 4 f <;> simp [parseFrom, h, o0, o1, o2, o3, o4]
  · omega
/-- A field of a text is no blank one, and not empty. -/
theorem fields_mem {l x : Bytes} (h : x ∈ fieldsB l) : x ≠ [] ∧ (∀ b ∈ x, blankB b = false) ∧ x.length ≤ l.length := by
  unfold fieldsB at h
  obtain ⟨h1, h2⟩ := List.mem_filter.1 h
  refine ⟨by simpa using h2, ?_⟩
  clear h h2
  induction l generalizing x with
  | nil => simp [splitB] at h1; subst h1; simp
  | cons c l ih =>
    simp only [splitB] at h1
    by_cases hc : blankB c = true
    · rw [if_pos hc] at h1
      rcases List.mem_cons.1 h1 with rfl | h1
      · simp
      · have := ih h1; exact ⟨this.1, by simp only [List.length_cons]; omega⟩
    · rw [if_neg hc] at h1
      cases hs : splitB blankB l with
      | nil => exact absurd hs (splitB_ne _ _)
      | cons y ys =>
        rw [hs] at h1 ih
        simp only at h1
        rcases List.mem_cons.1 h1 with rfl | h1
        · have := ih (x := y) (by simp)
          refine ⟨?_, by simp only [List.length_cons]; omega⟩
          intro b hb
          rcases List.mem_cons.1 hb with rfl | hb
          · simpa using hc
          · exact this.1 b hb
        · have := ih (x := x) (by simp [h1]); exact ⟨this.1, by simp only [List.length_cons]; omega⟩

set_option maxHeartbeats 1600000 in
theorem with_any (k : Nat) (f : Bytes) (hl : f.length ≤ 1000) (w : World) :
    Calls Tryd.prog 18 #[.int .i64 k, .string ⟨f.toArray⟩] w fun e w' => e = .returned (.string ⟨(withB k f).toArray⟩) ∧ Below w.heap.size w w' := by
  have HW : Hid (withB k f = wpre k f 5) := Lib.hid rfl
  rw [HW.out]
  go_enter Tryd.func18, Tryd.ntmps18
  go_wp2_with fail
  go_loop [5, 6] (fun s i => ∃ n : Nat, n ≤ 5 ∧ i = .int .i64 n ∧ s = .string ⟨(wpre k f n).toArray⟩) (fun _ i => 5 - (intOf i).toNat)
  case atStart => exact ⟨0, by decide, rfl, rfl⟩
  case round =>
    obtain ⟨n, hn, rfl, rfl⟩ := hrel
    have hwl : (wpre k f n).length ≤ 5010 := Nat.le_trans (wpre_len k f n) (by have : n * (f.length + 2) ≤ 5 * (f.length + 2) := Nat.mul_le_mul_right _ hn; omega)
    by_cases hlt : n < 5
    · have hlt' : (n : Int) < 5 := by omega
      have hs := wpre_succ k f n
      by_cases hk : n = k
      · rw [if_pos hk] at hs
        have hk' : ((n : Int) == (k : Int)) = true := by simp only [beq_iff_eq]; omega
        have HS : Hid (((⟨(wpre k f n).toArray⟩ : ByteArray) ++ (⟨f.toArray⟩ : ByteArray) ++ (⟨#[32]⟩ : ByteArray)) = ⟨(wpre k f (n + 1)).toArray⟩) := Lib.hid (by rw [hs, show (⟨#[32]⟩ : ByteArray) = ⟨[32].toArray⟩ from rfl, bytes_append, bytes_append, List.append_assoc])
        clear hs hk
        go_wp2
        exact ⟨⟨n + 1, by omega, by go_num, by rw [HS.out]⟩, by simp [intOf]; omega⟩
      · rw [if_neg hk] at hs
        have hk' : ((n : Int) == (k : Int)) = false := by simp only [beq_eq_false_iff_ne]; omega
        have HS : Hid (((⟨(wpre k f n).toArray⟩ : ByteArray) ++ (⟨#[49, 32]⟩ : ByteArray)) = ⟨(wpre k f (n + 1)).toArray⟩) := Lib.hid (by rw [hs, show (⟨#[49, 32]⟩ : ByteArray) = ⟨[49, 32].toArray⟩ from rfl, bytes_append]; rfl)
        clear hs hk
        go_wp2
        exact ⟨⟨n + 1, by omega, by go_num, by rw [HS.out]⟩, by simp [intOf]; omega⟩
    · have hn5 : n = 5 := by omega
      subst hn5
      go_wp2
      go_ret
      exact ⟨rfl, Below.refl _ _⟩
theorem owns_slice {w : World} {base : Nat} {e : TypeId} {v : Value} {n : Nat} {xs : List Value} (h : w.ownsRow base e 1 v n xs) : ∃ a c, v = .slice a n c := by
  obtain ⟨_, ⟨rfl, rfl⟩ | ⟨g, cap, cur, rfl, _⟩⟩ := h
  · exact ⟨_, _, rfl⟩
  · exact ⟨_, _, rfl⟩
/-- A row of one text. -/
theorem owns_one {w : World} {base : Nat} {e : TypeId} {v : Value} {x : Value} (h : w.ownsRow base e 1 v 1 [x]) : ∃ g c, v = .slice (some ⟨g, 0, none⟩) 1 c ∧ w.cell? ⟨g, 0, none⟩ = some x ∧ base ≤ g ∧ g < w.heap.size := by
  obtain ⟨_, ⟨_, h0⟩ | ⟨g, cap, cur, rfl, hg, hh, hn, hm, hs, hx⟩⟩ := h
  · omega
  · refine ⟨g, cap, rfl, ?_, hg, (Array.getElem?_eq_some_iff.1 hh).1⟩
    have h1 : (cur.toList.take (1 * 1))[0]? = some x := by rw [hx]; rfl
    rw [List.getElem?_take_of_lt (by omega), Array.getElem?_toList] at h1
    simpa [World.cell?, hh] using h1
end Go.Proofs.YtbbleedepmcdfaaDoor
