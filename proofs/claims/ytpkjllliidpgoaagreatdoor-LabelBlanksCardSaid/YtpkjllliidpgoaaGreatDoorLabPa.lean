/- Plain facts: a selector's text says the selector again. -/
import Derived.Test.YtpkjllliidpgoaaGreatDoorLabU
set_option linter.unusedSimpArgs false
set_option linter.unusedVariables false
namespace Go.Proofs.YtpkjllliidpgoaaGreatDoor
open Go.ChangeShapes Go.WideShapes Go.ChangeAt Go.RowKit Go.Base Go.Lab

theorem join_two (x y : Bytes) (r : List Bytes) : Lib.join (x :: y :: r) [44] = x ++ 44 :: Lib.join (y :: r) [44] := by
  simp [Lib.join, List.intercalate]
theorem index_no {x : Bytes} (h : ∀ c ∈ x, c ≠ 44) : Lib.index x [44] = -1 := by
  induction x with
  | nil => rfl
  | cons c x ih =>
    have hc : (([44] : Bytes).isPrefixOf (c :: x)) = false := by
      have := h c (by simp)
      simp [List.isPrefixOf, Ne.symm this]
    unfold Lib.index
    rw [hc, ih (fun d hd => h d (by simp [hd]))]
    rfl
theorem index_at {x r : Bytes} (h : ∀ c ∈ x, c ≠ 44) : Lib.index (x ++ 44 :: r) [44] = x.length := by
  induction x with
  | nil => simp [Lib.index, List.isPrefixOf]
  | cons c x ih =>
    have hc : (([44] : Bytes).isPrefixOf (c :: (x ++ 44 :: r))) = false := by
      have := h c (by simp)
      simp [List.isPrefixOf, Ne.symm this]
    have hi := ih (fun d hd => h d (by simp [hd]))
    rw [List.cons_append]
    unfold Lib.index
    rw [hc, hi, if_neg (by decide), if_neg (by simp only [beq_iff_eq]; omega), List.length_cons]
    omega
theorem split_join : ∀ (vals : List Bytes), vals ≠ [] → (∀ x ∈ vals, ∀ c ∈ x, c ≠ 44) → Lib.split (Lib.join vals [44]) [44] = vals
  | [], h, _ => absurd rfl h
  | [x], _, h => by
    have hi := index_no (h x (by simp))
    unfold Lib.split
    rw [Lib.join_one, Lib.count_miss hi]
    rfl
  | x :: y :: r, _, h => by
    have hi := index_at (r := Lib.join (y :: r) [44]) (h x (by simp))
    have ih := split_join (y :: r) (by simp) (fun z hz => h z (by simp at hz ⊢; right; exact hz))
    unfold Lib.split at ih ⊢
    rw [join_two, Lib.count_hit (by simp) hi, Nat.add_comm 1]
    have hd : (x ++ 44 :: Lib.join (y :: r) [44]).drop (x.length + 1) = Lib.join (y :: r) [44] := by
      rw [List.drop_append, List.drop_of_length_le (by omega)]
      simp
    unfold Lib.splitK
    rw [hi, if_neg (by simp only [beq_iff_eq]; omega)]
    simp only [Int.toNat_natCast, List.length_cons, List.length_nil, Nat.zero_add, Nat.add_zero]
    rw [hd, ih, List.take_left]

theorem isW_not {c : UInt8} (h : isW c = true) : c ≠ 44 ∧ c ≠ 40 ∧ c ≠ 41 ∧ c ≠ 32 ∧ c ≠ 61 ∧ c ≠ 33 := by
  refine ⟨?_, ?_, ?_, ?_, ?_, ?_⟩ <;> (rintro rfl; revert h; decide)
theorem walk_word {x : Bytes} (h : ∀ c ∈ x, isW c = true) (o : Nat) : walkD o x = some o := by
  induction x with
  | nil => rfl
  | cons c x ih =>
    have hc := isW_not (h c (by simp))
    unfold walkD
    have h1 : cutP o c = false := by unfold cutP; simp [hc.1]
    have h2 : stepO o c = o := by unfold stepO; simp [hc.2.1, hc.2.2.1]
    rw [h1, h2, if_neg (by decide)]
    exact ih (fun d hd => h d (by simp [hd]))
theorem word_all {x : Bytes} (h : wordB x = true) : (∀ c ∈ x, isW c = true) ∧ 1 ≤ x.length ∧ wordLen x = x.length := by
  unfold wordB at h
  simp only [Bool.and_eq_true, decide_eq_true_eq, beq_iff_eq] at h
  have := wordLen_all x
  rw [h.2, beq_self_eq_true] at this
  exact ⟨List.all_eq_true.1 this.symm, h.1.1, h.2⟩
theorem val_all {x : Bytes} (h : valB x = true) : ∀ c ∈ x, isW c = true := by
  unfold valB at h
  rcases (Bool.or_eq_true _ _).mp h with h | h
  · intro c hc; rw [List.isEmpty_iff.1 h] at hc; cases hc
  · exact (word_all h).1
theorem walk_join {vals : List Bytes} (h : ∀ x ∈ vals, ∀ c ∈ x, isW c = true) (o : Nat) : walkD (o + 1) (Lib.join vals [44]) = some (o + 1) := by
  induction vals with
  | nil => rfl
  | cons x r ih =>
    have hx := walk_word (h x (by simp)) (o + 1)
    have ihr := ih (fun y hy => h y (by simp [hy]))
    cases r with
    | nil => rw [Lib.join_one]; exact hx
    | cons y r =>
      rw [join_two, walkD_app, hx]
      simp only [Option.bind_some]
      unfold walkD
      have h1 : cutP (o + 1) 44 = false := by unfold cutP; simp
      have h2 : stepO (o + 1) 44 = o + 1 := by unfold stepO; simp
      rw [h1, h2, if_neg (by decide)]
      exact ihr
theorem parts_join : ∀ (ts : List Bytes), ts ≠ [] → (∀ t ∈ ts, walkD 0 t = some 0) → partsB 0 (Lib.join ts [44]) = ts
  | [], h, _ => absurd rfl h
  | [t], _, h => by rw [Lib.join_one]; exact parts_none (h t (by simp))
  | t :: u :: r, _, h => by
    rw [join_two, parts_at (h t (by simp)) (by decide), parts_join (u :: r) (by simp) (fun z hz => h z (by simp at hz ⊢; right; exact hz))]

/-- A text without blanks at its ends. -/
def Tight (x : Bytes) : Prop := (∀ c, x.head? = some c → c ≠ 32) ∧ (∀ c, x.getLast? = some c → c ≠ 32)
theorem trim_tight {x : Bytes} (h : Tight x) : trimS x = x := by
  unfold trimS Lib.trimB
  have h1 : Lib.trimRightB x 32 = x := by
    unfold Lib.trimRightB
    cases hr : x.reverse with
    | nil => rw [List.reverse_eq_nil_iff.1 hr]; rfl
    | cons c r =>
      have hl : x.getLast? = some c := by rw [← List.head?_reverse, hr]; rfl
      have hc := h.2 c hl
      rw [List.dropWhile_cons]
      simp only [beq_iff_eq, hc, if_false]
      rw [← hr, List.reverse_reverse]
  rw [h1]
  unfold Lib.trimLeftB
  cases x with
  | nil => rfl
  | cons c r =>
    have hc := h.1 c rfl
    rw [List.dropWhile_cons]
    simp [hc]
theorem tight_word {x : Bytes} (h : ∀ c ∈ x, isW c = true) : Tight x :=
  ⟨fun c hc => (isW_not (h c (List.mem_of_head? hc))).2.2.2.1, fun c hc => (isW_not (h c (List.mem_of_getLast? hc))).2.2.2.1⟩
theorem left_tight {x : Bytes} (h : ∀ c, x.head? = some c → c ≠ 32) : Lib.trimLeftB x 32 = x := by
  unfold Lib.trimLeftB
  cases x with
  | nil => rfl
  | cons c r =>
    have hc := h c rfl
    rw [List.dropWhile_cons]
    simp [hc]
theorem wordLen_app {x r : Bytes} (h : ∀ c ∈ x, isW c = true) (hr : ∀ c, r.head? = some c → isW c = false) : wordLen (x ++ r) = x.length := by
  refine wordLen_at (by simp) (fun c hc => h c (by simpa using hc)) ?_
  cases r with
  | nil => left; simp
  | cons c r => right; exact ⟨c, by simp, hr c rfl⟩
theorem cut_app {x r : Bytes} (h : ∀ c ∈ x, isW c = true) (hr : ∀ c, r.head? = some c → isW c = false) : cutA (x ++ r) = x ∧ cutZ (x ++ r) = Lib.trimLeftB r 32 := by
  unfold cutA cutZ
  rw [wordLen_app h hr]
  simp
theorem made_ok {k : Int} {key : Bytes} {vs : List Bytes} (h : sndB key vs = true) : madeP k key vs = some (k, key, vs) := by unfold madeP; rw [h, if_pos rfl]
theorem pre_no {x : Bytes} {c : UInt8} {r : Bytes} (h : ∀ e, x.head? = some e → e ≠ c) : Lib.hasPrefix x (c :: r) = false := by
  unfold Lib.hasPrefix
  cases x with
  | nil => rfl
  | cons e x =>
    have := h e rfl
    simp [List.isPrefixOf, Ne.symm this]
theorem head_app {x r : Bytes} (hx : 1 ≤ x.length) : (x ++ r).head? = x.head? := by
  cases x with
  | nil => simp at hx
  | cons c x => rfl
/-- What is right, by its kind. -/
theorem right_form {p : PC} (h : rightP p = true) : sndB p.2.1 p.2.2 = true ∧ ((p.1 = 1 ∨ p.1 = 2) ∧ 1 ≤ p.2.2.length ∧ p.2.2.length ≤ 16 ∨ (p.1 = 3 ∨ p.1 = 4) ∧ p.2.2 = []) := by
  obtain ⟨k, key, vals⟩ := p
  unfold rightP rightB soundB at h
  simp only [Bool.and_eq_true] at h
  refine ⟨by unfold sndB; simp only [Bool.and_eq_true]; exact h.2, ?_⟩
  have h1 := h.1
  split at h1
  · next hk => left; exact ⟨hk, takes_true h1⟩
  · split at h1
    · next hk => right; refine ⟨hk, ?_⟩; unfold takesB at h1; simpa using h1
    · cases h1
theorem snd_form {key : Bytes} {vs : List Bytes} (h : sndB key vs = true) : (∀ x ∈ vs, valB x = true) ∧ wordB key = true := by
  unfold sndB at h
  simp only [Bool.and_eq_true] at h
  exact ⟨List.all_eq_true.1 h.1, h.2⟩
theorem many_back (k : Int) (key : Bytes) (vals : List Bytes) (w : Bytes) (hw : (k = 1 ∧ w = [105, 110]) ∨ (k = 2 ∧ w = [110, 111, 116, 105, 110])) (hs : sndB key vals = true) (hv : vals ≠ []) :
    parseManyB key (w ++ 32 :: 40 :: (Lib.join vals [44] ++ [41])) = some (k, key, vals) := by
  obtain ⟨h1, h2⟩ := snd_form hs
  have hww : ∀ c ∈ w, isW c = true := by rcases hw with ⟨_, rfl⟩ | ⟨_, rfl⟩ <;> decide
  obtain ⟨ca, cz⟩ := cut_app (r := 32 :: 40 :: (Lib.join vals [44] ++ [41])) hww (fun c hc => by injection hc with hc; subst hc; decide)
  have cz2 : cutZ (w ++ 32 :: 40 :: (Lib.join vals [44] ++ [41])) = 40 :: (Lib.join vals [44] ++ [41]) := by
    rw [cz]; unfold Lib.trimLeftB; simp
  have hop : opened (40 :: (Lib.join vals [44] ++ [41])) = true := by unfold opened Lib.hasPrefix; simp [List.isPrefixOf]
  have htp : Lib.trimPrefix (40 :: (Lib.join vals [44] ++ [41])) [40] = Lib.join vals [44] ++ [41] := by
    unfold Lib.trimPrefix Lib.hasPrefix; simp [List.isPrefixOf]
  have hsf : Lib.hasSuffix (Lib.join vals [44] ++ [41]) [41] = true := by
    unfold Lib.hasSuffix; rw [List.isSuffixOf_iff_suffix]; exact List.suffix_append _ _
  have hcl : closed (40 :: (Lib.join vals [44] ++ [41])) = true := by unfold closed; rw [htp]; exact hsf
  have hin : innerB (40 :: (Lib.join vals [44] ++ [41])) = Lib.join vals [44] := by
    unfold innerB; rw [htp]; unfold Lib.trimSuffix; rw [hsf, if_pos rfl]; simp
  have hsp : splitL (Lib.join vals [44]) = vals := split_join vals hv (fun x hx c hc => (isW_not (val_all (h1 x hx) c hc)).1)
  have hmap : vals.map trimS = vals := by
    have := List.map_congr_left (f := trimS) (g := id) (l := vals) (fun x hx => trim_tight (tight_word (val_all (h1 x hx))))
    rw [this, List.map_id]
  have hl : listedB (40 :: (Lib.join vals [44] ++ [41])) = some vals := by
    unfold listedB; rw [hop, hcl, hin, hsp, hmap]; rfl
  unfold parseManyB
  rw [cz2, hl, ca]
  rcases hw with ⟨rfl, rfl⟩ | ⟨rfl, rfl⟩
  · exact made_ok hs
  · exact made_ok hs
/-- A clause's text: what it is without blanks, how deep it goes, and what it says. -/
theorem clause_back {p : PC} (h : rightP p = true) : Tight (clT p.1 p.2.1 p.2.2) ∧ walkD 0 (clT p.1 p.2.1 p.2.2) = some 0 ∧ parseClB (clT p.1 p.2.1 p.2.2) = some p ∧ clT p.1 p.2.1 p.2.2 ≠ [] := by
  obtain ⟨hs, hf⟩ := right_form h
  obtain ⟨k, key, vals⟩ := p
  simp only at hs hf ⊢
  obtain ⟨h1, h2⟩ := snd_form hs
  obtain ⟨hkw, hk1, hkl⟩ := word_all h2
  have hhead : ∀ (r : Bytes) c, (key ++ r).head? = some c → isW c = true := fun r c hc => by
    rw [head_app hk1] at hc; exact hkw c (List.mem_of_head? hc)
  have hne : ∀ r : Bytes, key ++ r ≠ [] := fun r e => by
    have : key = [] := (List.append_eq_nil_iff.1 e).1
    rw [this] at hk1; simp at hk1
  have hno33 : ∀ r : Bytes, Lib.hasPrefix (key ++ r) [33] = false := fun r => pre_no (c := 33) (r := []) (fun e he => (isW_not (hhead r e he)).2.2.2.2.2)
  rcases hf with ⟨hk, hn1, hn16⟩ | ⟨hk, hv⟩
  · -- values
    rcases vals with _ | ⟨x, r⟩
    · simp at hn1
    rcases r with _ | ⟨y, r⟩
    · -- one value
      have hxw := val_all (h1 x (by simp))
      have hlast : ∀ (s : Bytes) (hs : s ≠ []), (∀ c ∈ s, c ≠ 32) → ∀ c, (key ++ s ++ x).getLast? = some c → c ≠ 32 := fun s hs hc c hl => by
        have hm := List.mem_of_getLast? hl
        rcases List.mem_append.1 hm with hm | hm
        · rcases List.mem_append.1 hm with hm | hm
          · exact (isW_not (hkw c hm)).2.2.2.1
          · exact hc c hm
        · exact (isW_not (hxw c hm)).2.2.2.1
      rcases hk with rfl | rfl
      · have e : clT 1 key [x] = key ++ [61] ++ x := rfl
        rw [e]
        refine ⟨⟨fun c hc => (isW_not (hhead ([61] ++ x) c (by rw [← List.append_assoc]; exact hc))).2.2.2.1, hlast [61] (by simp) (by decide)⟩, ?_, ?_, by rw [List.append_assoc]; exact hne _⟩
        · rw [walkD_app, walkD_app, walk_word hkw]; simp only [Option.bind_some]; rw [show walkD 0 [61] = some 0 from rfl]; exact walk_word hxw 0
        · rw [List.append_assoc]
          obtain ⟨ca, cz⟩ := cut_app (r := [61] ++ x) hkw (fun c hc => by injection hc with hc; subst hc; decide)
          have cz2 : cutZ (key ++ ([61] ++ x)) = 61 :: x := by rw [cz]; exact left_tight (fun c hc => by injection hc with hc; subst hc; decide)
          unfold parseClB
          rw [hno33, cz2, ca, if_neg (by decide), if_neg (by simp)]
          have hp2 : Lib.hasPrefix (61 :: x) [61, 61] = false := by
            unfold Lib.hasPrefix
            cases x with
            | nil => rfl
            | cons c x =>
              have := (isW_not (hxw c (by simp))).2.2.2.2.1
              simp [List.isPrefixOf, Ne.symm this]
          have hp1 : Lib.hasPrefix (61 :: x) [61] = true := by unfold Lib.hasPrefix; simp [List.isPrefixOf]
          have htp : Lib.trimPrefix (61 :: x) [61] = x := by unfold Lib.trimPrefix; rw [hp1]; simp
          rw [hp2, hp1, if_neg (by decide), if_pos rfl, htp, trim_tight (tight_word hxw)]
          exact made_ok hs
      · have e : clT 2 key [x] = key ++ [33, 61] ++ x := rfl
        rw [e]
        refine ⟨⟨fun c hc => (isW_not (hhead ([33, 61] ++ x) c (by rw [← List.append_assoc]; exact hc))).2.2.2.1, hlast [33, 61] (by simp) (by decide)⟩, ?_, ?_, by rw [List.append_assoc]; exact hne _⟩
        · rw [walkD_app, walkD_app, walk_word hkw]; simp only [Option.bind_some]; rw [show walkD 0 [33, 61] = some 0 from rfl]; exact walk_word hxw 0
        · rw [List.append_assoc]
          obtain ⟨ca, cz⟩ := cut_app (r := [33, 61] ++ x) hkw (fun c hc => by injection hc with hc; subst hc; decide)
          have cz2 : cutZ (key ++ ([33, 61] ++ x)) = 33 :: 61 :: x := by rw [cz]; exact left_tight (fun c hc => by injection hc with hc; subst hc; decide)
          unfold parseClB
          rw [hno33, cz2, ca, if_neg (by decide), if_neg (by simp)]
          have hp2 : Lib.hasPrefix (33 :: 61 :: x) [61, 61] = false := by unfold Lib.hasPrefix; simp [List.isPrefixOf]
          have hp1 : Lib.hasPrefix (33 :: 61 :: x) [61] = false := by unfold Lib.hasPrefix; simp [List.isPrefixOf]
          have hp3 : Lib.hasPrefix (33 :: 61 :: x) [33, 61] = true := by unfold Lib.hasPrefix; simp [List.isPrefixOf]
          have htp : Lib.trimPrefix (33 :: 61 :: x) [33, 61] = x := by unfold Lib.trimPrefix; rw [hp3]; simp
          rw [hp2, hp1, hp3, if_neg (by decide), if_neg (by decide), if_pos rfl, htp, trim_tight (tight_word hxw)]
          exact made_ok hs
    · -- many
      have hvw : ∀ z ∈ x :: y :: r, ∀ c ∈ z, isW c = true := fun z hz => val_all (h1 z hz)
      have key2 : ∀ (w : Bytes) (hwd : (k = 1 ∧ w = [105, 110]) ∨ (k = 2 ∧ w = [110, 111, 116, 105, 110])), clT k key (x :: y :: r) = key ++ (32 :: w ++ [32]) ++ [40] ++ Lib.join (x :: y :: r) [44] ++ [41] →
          Tight (clT k key (x :: y :: r)) ∧ walkD 0 (clT k key (x :: y :: r)) = some 0 ∧ parseClB (clT k key (x :: y :: r)) = some (k, key, x :: y :: r) ∧ clT k key (x :: y :: r) ≠ [] := by
        intro w hwd e
        have hww : ∀ c ∈ w, isW c = true := by rcases hwd with ⟨_, rfl⟩ | ⟨_, rfl⟩ <;> decide
        have hw1 : 1 ≤ w.length := by rcases hwd with ⟨_, rfl⟩ | ⟨_, rfl⟩ <;> decide
        rw [e]
        refine ⟨⟨fun c hc => ?_, fun c hc => ?_⟩, ?_, ?_, by simp⟩
        · simp only [List.append_assoc] at hc; exact (isW_not (hhead _ c hc)).2.2.2.1
        · rw [List.getLast?_concat] at hc; injection hc with hc; subst hc; decide
        · rw [walkD_app, walkD_app, walkD_app, walkD_app, walk_word hkw]
          simp only [Option.bind_some]
          have hsp : walkD 0 (32 :: w ++ [32]) = some 0 := by rcases hwd with ⟨_, rfl⟩ | ⟨_, rfl⟩ <;> rfl
          rw [hsp]
          simp only [Option.bind_some]
          rw [show walkD 0 [40] = some 1 from rfl]
          simp only [Option.bind_some]
          rw [walk_join hvw 0]
          rfl
        · have e2 : key ++ (32 :: w ++ [32]) ++ [40] ++ Lib.join (x :: y :: r) [44] ++ [41] = key ++ (32 :: (w ++ 32 :: 40 :: (Lib.join (x :: y :: r) [44] ++ [41]))) := by simp
          rw [e2]
          obtain ⟨ca, cz⟩ := cut_app (r := 32 :: (w ++ 32 :: 40 :: (Lib.join (x :: y :: r) [44] ++ [41]))) hkw (fun c hc => by injection hc with hc; subst hc; decide)
          have cz2 : cutZ (key ++ (32 :: (w ++ 32 :: 40 :: (Lib.join (x :: y :: r) [44] ++ [41])))) = w ++ 32 :: 40 :: (Lib.join (x :: y :: r) [44] ++ [41]) := by
            rw [cz]
            have hl : Lib.trimLeftB (w ++ 32 :: 40 :: (Lib.join (x :: y :: r) [44] ++ [41])) 32 = w ++ 32 :: 40 :: (Lib.join (x :: y :: r) [44] ++ [41]) :=
              left_tight (fun c hc => by rw [head_app hw1] at hc; exact (isW_not (hww c (List.mem_of_head? hc))).2.2.2.1)
            unfold Lib.trimLeftB at hl ⊢
            rw [List.dropWhile_cons, if_pos (by decide)]
            exact hl
          have hh : ∀ c, (w ++ 32 :: 40 :: (Lib.join (x :: y :: r) [44] ++ [41])).head? = some c → isW c = true := fun c hc => by
            rw [head_app hw1] at hc; exact hww c (List.mem_of_head? hc)
          have n1 := pre_no (c := 61) (r := [61]) (fun e he => (isW_not (hh e he)).2.2.2.2.1)
          have n2 := pre_no (c := 61) (r := []) (fun e he => (isW_not (hh e he)).2.2.2.2.1)
          have n3 := pre_no (c := 33) (r := [61]) (fun e he => (isW_not (hh e he)).2.2.2.2.2)
          unfold parseClB
          rw [hno33, cz2, ca, n1, n2, n3, if_neg (by decide), if_neg (by simp), if_neg (by decide), if_neg (by decide), if_neg (by decide)]
          exact many_back k key _ w hwd hs (by simp)
      rcases hk with rfl | rfl
      · exact key2 [105, 110] (.inl ⟨rfl, rfl⟩) rfl
      · exact key2 [110, 111, 116, 105, 110] (.inr ⟨rfl, rfl⟩) rfl
  · subst hv
    rcases hk with rfl | rfl
    · have e : clT 3 key [] = key := rfl
      rw [e]
      refine ⟨tight_word hkw, walk_word hkw 0, ?_, fun e => by rw [e] at hk1; simp at hk1⟩
      have n0 := hno33 []
      rw [List.append_nil] at n0
      have ca : cutA key = key := by unfold cutA; rw [hkl]; simp
      have cz : cutZ key = [] := by unfold cutZ; rw [hkl]; simp [Lib.trimLeftB]
      unfold parseClB
      rw [n0, cz, ca, if_neg (by decide), if_pos rfl]
      exact made_ok hs
    · have e : clT 4 key [] = 33 :: key := rfl
      rw [e]
      refine ⟨⟨fun c hc => by injection hc with hc; subst hc; decide, fun c hc => ?_⟩, ?_, ?_, by simp⟩
      · have := List.mem_of_getLast? hc
        rcases List.mem_cons.1 this with rfl | hm
        · decide
        · exact (isW_not (hkw c hm)).2.2.2.1
      · unfold walkD
        rw [show cutP 0 33 = false from rfl, show stepO 0 33 = 0 from rfl, if_neg (by decide)]
        exact walk_word hkw 0
      · have hp : Lib.hasPrefix (33 :: key) [33] = true := by unfold Lib.hasPrefix; simp [List.isPrefixOf]
        have htp : Lib.trimPrefix (33 :: key) [33] = key := by unfold Lib.trimPrefix; rw [hp]; simp
        unfold parseClB
        rw [hp, if_pos rfl, htp, trim_tight (tight_word hkw)]
        exact made_ok hs
theorem fold_back : ∀ (ps acc : List PC), (∀ p ∈ ps, rightP p = true) → acc.length + ps.length ≤ 16 → foldP (ps.map fun p => clT p.1 p.2.1 p.2.2) acc = .ok (acc ++ ps)
  | [], acc, _, _ => by simp [foldP]
  | p :: ps, acc, h, hl => by
    obtain ⟨ht, _, hp, _⟩ := clause_back (h p (by simp))
    have hn : p.2.2.length ≤ 16 := by
      rcases (right_form (h p (by simp))).2 with ⟨_, _, h⟩ | ⟨_, h⟩
      · exact h
      · rw [h]; simp
    have hs : stepP acc (clT p.1 p.2.1 p.2.2) = .ok (acc ++ [p]) := by
      unfold stepP
      rw [if_neg (by simp at hl; omega), trim_tight ht, hp]
      simp only
      rw [if_neg (by omega)]
    rw [List.map_cons]
    unfold foldP
    rw [hs]
    simp only
    rw [fold_back ps (acc ++ [p]) (fun q hq => h q (by simp [hq])) (by simp at hl ⊢; omega)]
    simp
theorem join_ends {ts : List Bytes} (h : ∀ t ∈ ts, Tight t ∧ t ≠ []) : Tight (Lib.join ts [44]) := by
  induction ts with
  | nil => exact ⟨(fun c hc => by cases hc), (fun c hc => by cases hc)⟩
  | cons t r ih =>
    have h0 := h t (by simp)
    have hr := ih (fun u hu => h u (by simp [hu]))
    cases r with
    | nil => rw [Lib.join_one]; exact h0.1
    | cons u r =>
      rw [join_two]
      have ht1 : 1 ≤ t.length := by cases t with
        | nil => exact absurd rfl h0.2
        | cons c t => simp
      refine ⟨fun c hc => ?_, fun c hc => ?_⟩
      · rw [head_app ht1] at hc; exact h0.1.1 c hc
      · rw [List.getLast?_append, List.getLast?_cons] at hc
        cases hj : (Lib.join (u :: r) [44]).getLast? with
        | none => rw [hj] at hc; simp at hc; subst hc; decide
        | some d => rw [hj] at hc; simp at hc; subst hc; exact hr.2 d hj
theorem join_not_nil {ts : List Bytes} (hn : ts ≠ []) (h : ∀ t ∈ ts, t ≠ []) : Lib.join ts [44] ≠ [] := by
  cases ts with
  | nil => exact absurd rfl hn
  | cons t r =>
    rw [Lib.join_cons]
    intro e
    exact h t (by simp) (List.append_eq_nil_iff.1 e).1
/-- What was printed is parsed. -/
theorem print_back {ps : List PC} (h : printP ps ≠ []) : parseB (printP ps) = if 512 < (printP ps).length then .error (3, 0) else .ok ps := by
  unfold printP at h ⊢
  split at h
  · next hc =>
    rw [if_pos hc]
    simp only [Bool.and_eq_true, decide_eq_true_eq] at hc
    have hr := List.all_eq_true.1 hc.2
    have hts : ∀ t ∈ ps.map (fun p => clT p.1 p.2.1 p.2.2), Tight t ∧ walkD 0 t = some 0 ∧ t ≠ [] := fun t ht => by
      obtain ⟨p, hp, rfl⟩ := List.mem_map.1 ht
      obtain ⟨a, b, _, d⟩ := clause_back (hr p hp)
      exact ⟨a, b, d⟩
    have hne : ps ≠ [] := by rintro rfl; exact h rfl
    unfold parseB
    split
    · rfl
    · rw [trim_tight (join_ends fun t ht => ⟨(hts t ht).1, (hts t ht).2.2⟩), if_neg h, parts_join _ (by simpa using hne) (fun t ht => (hts t ht).2.1), fold_back ps [] hr (by simpa using hc.1)]
      simp
  · exact absurd rfl h
end Go.Proofs.YtpkjllliidpgoaaGreatDoor
