/- Plain facts: blanks about commas and brackets of a selector's text change nothing. -/
import Derived.Test.YtpkjllliidpgoaaGreatDoorLabPd
set_option linter.unusedSimpArgs false
set_option linter.unusedVariables false
namespace Go.Proofs.YtpkjllliidpgoaaGreatDoor
open Go.ChangeShapes Go.WideShapes Go.ChangeAt Go.RowKit Go.Base Go.Lab

def marked (b : UInt8) : Bool := b == 44 || b == 40 || b == 41
def spB (n : Nat) : Bytes := List.replicate n 32
def padOne (n : Nat) (b : UInt8) : Bytes := if marked b then spB n ++ [b] ++ spB n else [b]
/-- A text with blanks about each comma and bracket. -/
def padB (n : Nat) (t : Bytes) : Bytes := t.flatMap (padOne n)
abbrev Sps (a : Bytes) : Prop := ∀ c ∈ a, c = 32
theorem sps_spB (n : Nat) : Sps (spB n) := fun c h => (List.mem_replicate.1 h).2
theorem sps_nil : Sps [] := fun c h => by cases h
theorem padB_app (n : Nat) (a b : Bytes) : padB n (a ++ b) = padB n a ++ padB n b := List.flatMap_append
theorem padB_comma (n : Nat) : padB n [44] = spB n ++ [44] ++ spB n := by unfold padB padOne; simp [marked]
theorem padB_id {n : Nat} {t : Bytes} (h : ∀ c ∈ t, marked c = false) : padB n t = t := by
  unfold padB
  induction t with
  | nil => rfl
  | cons c t ih =>
    rw [List.flatMap_cons, ih (fun d hd => h d (by simp [hd]))]
    unfold padOne; rw [h c (by simp)]; rfl
theorem mark_word {c : UInt8} (h : isW c = true) : marked c = false := by
  have := isW_not h
  unfold marked; simp [this.1, this.2.1, this.2.2.1]
/-- Parts, each with its blanks. -/
def padL (n : Nat) (pre post : Bytes) : List Bytes → List Bytes
  | [] => []
  | [t] => [pre ++ padB n t ++ post]
  | t :: u :: r => (pre ++ padB n t ++ spB n) :: padL n (spB n) post (u :: r)
theorem padL_ne {n : Nat} {pre post : Bytes} {ts : List Bytes} (h : ts ≠ []) : padL n pre post ts ≠ [] := by
  match ts, h with
  | [t], _ => simp [padL]
  | t :: u :: r, _ => simp [padL]
theorem padL_join (n : Nat) (post : Bytes) : ∀ (ts : List Bytes) (pre : Bytes), ts ≠ [] → pre ++ padB n (Lib.join ts [44]) ++ post = Lib.join (padL n pre post ts) [44]
  | [], _, h => absurd rfl h
  | [t], pre, _ => by simp [padL, Lib.join_one]
  | t :: u :: r, pre, _ => by
    have ih := padL_join n post (u :: r) (spB n) (by simp)
    have hne : padL n (spB n) post (u :: r) ≠ [] := padL_ne (by simp)
    rw [join_two, padL]
    cases hp : padL n (spB n) post (u :: r) with
    | nil => exact absurd hp hne
    | cons p ps =>
      rw [hp] at ih
      rw [join_two, ← ih, padB_app, show (44 :: Lib.join (u :: r) [44] : Bytes) = [44] ++ Lib.join (u :: r) [44] from rfl, padB_app, padB_comma]
      simp
theorem padL_map {β : Type} (n : Nat) (post : Bytes) (hpost : Sps post) (f g : Bytes → β) : ∀ (ts : List Bytes) (pre : Bytes), Sps pre → (∀ t ∈ ts, ∀ a b, Sps a → Sps b → f (a ++ padB n t ++ b) = g t) → (padL n pre post ts).map f = ts.map g
  | [], _, _, _ => rfl
  | [t], pre, hp, h => by simp only [padL, List.map_cons, List.map_nil]; rw [h t (by simp) pre post hp hpost]
  | t :: u :: r, pre, hp, h => by
    rw [padL, List.map_cons, List.map_cons, h t (by simp) pre (spB n) hp (sps_spB n), padL_map n post hpost f g (u :: r) (spB n) (sps_spB n) (fun x hx => h x (by simp at hx ⊢; right; exact hx))]
theorem padL_all (n : Nat) (post : Bytes) (hpost : Sps post) (p : Bytes → Prop) : ∀ (ts : List Bytes) (pre : Bytes), Sps pre → (∀ t ∈ ts, ∀ a b, Sps a → Sps b → p (a ++ padB n t ++ b)) → ∀ u ∈ padL n pre post ts, p u
  | [], _, _, _, u, hu => by cases hu
  | [t], pre, hp, h, u, hu => by simp only [padL, List.mem_singleton] at hu; rw [hu]; exact h t (by simp) pre post hp hpost
  | t :: v :: r, pre, hp, h, u, hu => by
    rw [padL] at hu
    rcases List.mem_cons.1 hu with rfl | hu
    · exact h t (by simp) pre (spB n) hp (sps_spB n)
    · exact padL_all n post hpost p (v :: r) (spB n) (sps_spB n) (fun x hx => h x (by simp at hx ⊢; right; exact hx)) u hu

theorem drop_sps {a x : Bytes} (h : Sps a) : Lib.trimLeftB (a ++ x) 32 = Lib.trimLeftB x 32 := by
  unfold Lib.trimLeftB
  induction a with
  | nil => rfl
  | cons c a ih =>
    have hc := h c (by simp)
    subst hc
    rw [List.cons_append, List.dropWhile_cons, if_pos (by decide)]
    exact ih (fun d hd => h d (by simp [hd]))
theorem trim_right {b x : Bytes} (h : Sps b) : Lib.trimRightB (x ++ b) 32 = Lib.trimRightB x 32 := by
  have h2 := drop_sps (a := b.reverse) (x := x.reverse) (fun c hc => h c (List.mem_reverse.1 hc))
  unfold Lib.trimLeftB at h2
  unfold Lib.trimRightB
  rw [List.reverse_append, h2]
theorem right_left {a x : Bytes} (h : Sps a) (hx : ∀ c, x.getLast? = some c → c ≠ 32) (hne : x ≠ []) : Lib.trimRightB (a ++ x) 32 = a ++ x := by
  unfold Lib.trimRightB
  cases hr : x.reverse with
  | nil => exact absurd (List.reverse_eq_nil_iff.1 hr) hne
  | cons c r =>
    have hl : x.getLast? = some c := by rw [← List.head?_reverse, hr]; rfl
    have hc := hx c hl
    rw [List.reverse_append, hr, List.cons_append, List.dropWhile_cons]
    simp only [beq_iff_eq, hc, if_false]
    rw [← List.cons_append, ← hr, ← List.reverse_append, List.reverse_reverse]
theorem right_sps {a : Bytes} (h : Sps a) : Lib.trimRightB a 32 = [] := by
  have := trim_right (x := []) h
  rw [List.nil_append] at this
  rw [this]; rfl
/-- Blanks at the ends are trimmed. -/
theorem trim_pad {a x b : Bytes} (ha : Sps a) (hb : Sps b) (hx : Tight x) : trimS (a ++ x ++ b) = x := by
  unfold trimS Lib.trimB
  rw [trim_right hb]
  by_cases hne : x = []
  · subst hne
    rw [List.append_nil, right_sps ha]; rfl
  · rw [right_left ha hx.2 hne, drop_sps ha]
    exact left_tight hx.1
theorem walk_sps {a : Bytes} (h : Sps a) (o : Nat) : walkD o a = some o := by
  induction a with
  | nil => rfl
  | cons c a ih =>
    have hc := h c (by simp)
    subst hc
    unfold walkD
    rw [show cutP o 32 = false from by unfold cutP; rfl, show stepO o 32 = o from by unfold stepO; rfl, if_neg (by decide)]
    exact ih (fun d hd => h d (by simp [hd]))
theorem walk_pad {a x b : Bytes} {o o' : Nat} (ha : Sps a) (hb : Sps b) (hx : walkD o x = some o') : walkD o (a ++ x ++ b) = some o' := by
  rw [walkD_app, walkD_app, walk_sps ha]
  simp only [Option.bind_some]
  rw [hx]
  simp only [Option.bind_some]
  exact walk_sps hb o'
theorem walk_joinP {us : List Bytes} (o : Nat) (h : ∀ u ∈ us, walkD (o + 1) u = some (o + 1)) : walkD (o + 1) (Lib.join us [44]) = some (o + 1) := by
  induction us with
  | nil => rfl
  | cons x r ih =>
    have ihr := ih (fun y hy => h y (by simp [hy]))
    cases r with
    | nil => rw [Lib.join_one]; exact h x (by simp)
    | cons y r =>
      rw [join_two, walkD_app, h x (by simp)]
      simp only [Option.bind_some]
      unfold walkD
      have h1 : cutP (o + 1) 44 = false := by unfold cutP; simp
      have h2 : stepO (o + 1) 44 = o + 1 := by unfold stepO; simp
      rw [h1, h2, if_neg (by decide)]
      exact ihr
theorem split_sps {vals : List Bytes} (n : Nat) (h : ∀ x ∈ vals, ∀ c ∈ x, isW c = true) : ∀ u ∈ padL n (spB n) (spB n) vals, ∀ c ∈ u, c ≠ 44 :=
  padL_all n (spB n) (sps_spB n) (fun u => ∀ c ∈ u, c ≠ 44) vals (spB n) (sps_spB n) (fun t ht a b ha hb c hc => by
    rw [padB_id (fun d hd => mark_word (h t ht d hd))] at hc
    rcases List.mem_append.1 hc with hc | hc
    · rcases List.mem_append.1 hc with hc | hc
      · rw [ha c hc]; decide
      · exact (isW_not (h t ht c hc)).1
    · rw [hb c hc]; decide)
/-- What stands in the brackets, with its blanks. -/
theorem many_pad (k : Int) (key : Bytes) (vals : List Bytes) (w : Bytes) (n : Nat) (hw : (k = 1 ∧ w = [105, 110]) ∨ (k = 2 ∧ w = [110, 111, 116, 105, 110])) (hs : sndB key vals = true) (hv : vals ≠ []) :
    parseManyB key (w ++ 32 :: (spB n ++ 40 :: ((spB n ++ padB n (Lib.join vals [44]) ++ spB n) ++ [41]))) = some (k, key, vals) := by
  obtain ⟨h1, h2⟩ := snd_form hs
  have hvw : ∀ x ∈ vals, ∀ c ∈ x, isW c = true := fun x hx => val_all (h1 x hx)
  have hww : ∀ c ∈ w, isW c = true := by rcases hw with ⟨_, rfl⟩ | ⟨_, rfl⟩ <;> decide
  generalize hX : spB n ++ padB n (Lib.join vals [44]) ++ spB n = X
  have hXj : X = Lib.join (padL n (spB n) (spB n) vals) [44] := by rw [← hX, padL_join n (spB n) vals (spB n) hv]
  obtain ⟨ca, cz⟩ := cut_app (r := 32 :: (spB n ++ 40 :: (X ++ [41]))) hww (fun c hc => by injection hc with hc; subst hc; decide)
  have cz2 : cutZ (w ++ 32 :: (spB n ++ 40 :: (X ++ [41]))) = 40 :: (X ++ [41]) := by
    rw [cz, show (32 :: (spB n ++ 40 :: (X ++ [41])) : Bytes) = (32 :: spB n) ++ 40 :: (X ++ [41]) from rfl, drop_sps (fun c hc => by rcases List.mem_cons.1 hc with h | h; exact h; exact sps_spB n c h)]
    exact left_tight (fun c hc => by injection hc with hc; subst hc; decide)
  have hop : opened (40 :: (X ++ [41])) = true := by unfold opened Lib.hasPrefix; simp [List.isPrefixOf]
  have htp : Lib.trimPrefix (40 :: (X ++ [41])) [40] = X ++ [41] := by
    unfold Lib.trimPrefix Lib.hasPrefix; simp [List.isPrefixOf]
  have hsf : Lib.hasSuffix (X ++ [41]) [41] = true := by
    unfold Lib.hasSuffix; rw [List.isSuffixOf_iff_suffix]; exact List.suffix_append _ _
  have hcl : closed (40 :: (X ++ [41])) = true := by unfold closed; rw [htp]; exact hsf
  have hin : innerB (40 :: (X ++ [41])) = X := by
    unfold innerB; rw [htp]; unfold Lib.trimSuffix; rw [hsf, if_pos rfl]; simp
  have hsp : splitL X = padL n (spB n) (spB n) vals := by
    rw [hXj]; exact split_join _ (padL_ne hv) (split_sps n hvw)
  have hmap : (padL n (spB n) (spB n) vals).map trimS = vals := by
    have := padL_map n (spB n) (sps_spB n) trimS id vals (spB n) (sps_spB n) (fun t ht a b ha hb => by
      rw [padB_id (fun d hd => mark_word (hvw t ht d hd))]; exact trim_pad ha hb (tight_word (hvw t ht)))
    rw [this, List.map_id]
  have hl : listedB (40 :: (X ++ [41])) = some vals := by
    unfold listedB; rw [hop, hcl, hin, hsp, hmap]; rfl
  unfold parseManyB
  rw [cz2, hl, ca]
  rcases hw with ⟨rfl, rfl⟩ | ⟨rfl, rfl⟩
  · exact made_ok hs
  · exact made_ok hs
/-- A clause's text with its blanks: it is tight but for blanks at its end; its depth; what it says. -/
theorem clause_pad {p : PC} (n : Nat) (h : rightP p = true) : ∃ y b, padB n (clT p.1 p.2.1 p.2.2) = y ++ b ∧ Sps b ∧ Tight y ∧ walkD 0 y = some 0 ∧ parseClB y = some p := by
  obtain ⟨hT, hW, hP, hne⟩ := clause_back h
  obtain ⟨hs, hf⟩ := right_form h
  obtain ⟨k, key, vals⟩ := p
  simp only at hs hf hT hW hP ⊢
  obtain ⟨h1, h2⟩ := snd_form hs
  obtain ⟨hkw, hk1, hkl⟩ := word_all h2
  have plainC : (∀ c ∈ clT k key vals, marked c = false) → ∃ y b, padB n (clT k key vals) = y ++ b ∧ Sps b ∧ Tight y ∧ walkD 0 y = some 0 ∧ parseClB y = some (k, key, vals) := fun hm =>
    ⟨clT k key vals, [], by rw [padB_id hm, List.append_nil], sps_nil, hT, hW, hP⟩
  have hkm : ∀ c ∈ key, marked c = false := fun c hc => mark_word (hkw c hc)
  rcases hf with ⟨hk, hn1, hn16⟩ | ⟨hk, hv⟩
  · rcases vals with _ | ⟨x, r⟩
    · simp at hn1
    rcases r with _ | ⟨y, r⟩
    · have hxm : ∀ c ∈ x, marked c = false := fun c hc => mark_word (val_all (h1 x (by simp)) c hc)
      refine plainC (fun c hc => ?_)
      have hc2 : c ∈ key ∨ c = 61 ∨ c = 33 ∨ c ∈ x := by
        rcases hk with rfl | rfl
        · have hc : c ∈ key ++ [61] ++ x := hc
          simp only [List.mem_append, List.mem_singleton] at hc
          rcases hc with (hc | hc) | hc
          · exact .inl hc
          · exact .inr (.inl hc)
          · exact .inr (.inr (.inr hc))
        · have hc : c ∈ key ++ [33, 61] ++ x := hc
          simp only [List.mem_append, List.mem_cons, List.not_mem_nil, or_false] at hc
          rcases hc with (hc | hc | hc) | hc
          · exact .inl hc
          · exact .inr (.inr (.inl hc))
          · exact .inr (.inl hc)
          · exact .inr (.inr (.inr hc))
      rcases hc2 with hc | rfl | rfl | hc
      · exact hkm c hc
      · rfl
      · rfl
      · exact hxm c hc
    · have hvw : ∀ z ∈ x :: y :: r, ∀ c ∈ z, isW c = true := fun z hz => val_all (h1 z hz)
      have hhead : ∀ (r : Bytes) c, (key ++ r).head? = some c → isW c = true := fun r c hc => by
        rw [head_app hk1] at hc; exact hkw c (List.mem_of_head? hc)
      have hno33 : ∀ r : Bytes, Lib.hasPrefix (key ++ r) [33] = false := fun r => pre_no (c := 33) (r := []) (fun e he => (isW_not (hhead r e he)).2.2.2.2.2)
      have key2 : ∀ (w : Bytes) (hwd : (k = 1 ∧ w = [105, 110]) ∨ (k = 2 ∧ w = [110, 111, 116, 105, 110])), clT k key (x :: y :: r) = key ++ (32 :: w ++ [32]) ++ [40] ++ Lib.join (x :: y :: r) [44] ++ [41] →
          ∃ y' b, padB n (clT k key (x :: y :: r)) = y' ++ b ∧ Sps b ∧ Tight y' ∧ walkD 0 y' = some 0 ∧ parseClB y' = some (k, key, x :: y :: r) := by
        intro w hwd e
        have hww : ∀ c ∈ w, isW c = true := by rcases hwd with ⟨_, rfl⟩ | ⟨_, rfl⟩ <;> decide
        have hw1 : 1 ≤ w.length := by rcases hwd with ⟨_, rfl⟩ | ⟨_, rfl⟩ <;> decide
        generalize hX : spB n ++ padB n (Lib.join (x :: y :: r) [44]) ++ spB n = X
        have hXj : X = Lib.join (padL n (spB n) (spB n) (x :: y :: r)) [44] := by rw [← hX, padL_join n (spB n) _ (spB n) (by simp)]
        have hXw : walkD 1 X = some 1 := by
          rw [hXj]
          refine walk_joinP 0 (padL_all n (spB n) (sps_spB n) (fun u => walkD 1 u = some 1) _ (spB n) (sps_spB n) (fun t ht a b ha hb => ?_))
          rw [padB_id (fun d hd => mark_word (hvw t ht d hd))]
          exact walk_pad ha hb (walk_word (hvw t ht) 1)
        have hmid : ∀ c ∈ key ++ (32 :: w ++ [32]), marked c = false := fun c hc => by
          simp only [List.cons_append, List.mem_append, List.mem_cons, List.not_mem_nil, or_false] at hc
          rcases hc with hc | rfl | hc | rfl
          · exact hkm c hc
          · rfl
          · exact mark_word (hww c hc)
          · rfl
        refine ⟨key ++ (32 :: (w ++ 32 :: (spB n ++ 40 :: (X ++ [41])))), spB n, ?_, sps_spB n, ⟨fun c hc => (isW_not (hhead _ c hc)).2.2.2.1, fun c hc => ?_⟩, ?_, ?_⟩
        · rw [e, padB_app, padB_app, padB_app, padB_id hmid, ← hX]
          have e40 : padB n [40] = spB n ++ [40] ++ spB n := by unfold padB padOne; simp [marked]
          have e41 : padB n [41] = spB n ++ [41] ++ spB n := by unfold padB padOne; simp [marked]
          rw [e40, e41]; simp
        · have e5 : key ++ (32 :: (w ++ 32 :: (spB n ++ 40 :: (X ++ [41])))) = (key ++ (32 :: (w ++ 32 :: (spB n ++ 40 :: X)))) ++ [41] := by simp
          rw [e5, List.getLast?_concat] at hc; injection hc with hc; subst hc; decide
        · have e6 : key ++ (32 :: (w ++ 32 :: (spB n ++ 40 :: (X ++ [41])))) = key ++ (32 :: w ++ [32]) ++ spB n ++ [40] ++ X ++ [41] := by simp
          rw [e6, walkD_app, walkD_app, walkD_app, walkD_app, walkD_app, walk_word hkw]
          simp only [Option.bind_some]
          have hsp : walkD 0 (32 :: w ++ [32]) = some 0 := by rcases hwd with ⟨_, rfl⟩ | ⟨_, rfl⟩ <;> rfl
          rw [hsp]
          simp only [Option.bind_some]
          rw [walk_sps (sps_spB n)]
          simp only [Option.bind_some]
          rw [show walkD 0 [40] = some 1 from rfl]
          simp only [Option.bind_some]
          rw [hXw]
          rfl
        · obtain ⟨ca, cz⟩ := cut_app (r := 32 :: (w ++ 32 :: (spB n ++ 40 :: (X ++ [41])))) hkw (fun c hc => by injection hc with hc; subst hc; decide)
          have cz2 : cutZ (key ++ (32 :: (w ++ 32 :: (spB n ++ 40 :: (X ++ [41]))))) = w ++ 32 :: (spB n ++ 40 :: (X ++ [41])) := by
            rw [cz, show (32 :: (w ++ 32 :: (spB n ++ 40 :: (X ++ [41]))) : Bytes) = [32] ++ (w ++ 32 :: (spB n ++ 40 :: (X ++ [41]))) from rfl, drop_sps (fun c hc => List.mem_singleton.1 hc)]
            exact left_tight (fun c hc => by rw [head_app hw1] at hc; exact (isW_not (hww c (List.mem_of_head? hc))).2.2.2.1)
          have hh : ∀ c, (w ++ 32 :: (spB n ++ 40 :: (X ++ [41]))).head? = some c → isW c = true := fun c hc => by
            rw [head_app hw1] at hc; exact hww c (List.mem_of_head? hc)
          have n1 := pre_no (c := 61) (r := [61]) (fun e he => (isW_not (hh e he)).2.2.2.2.1)
          have n2 := pre_no (c := 61) (r := []) (fun e he => (isW_not (hh e he)).2.2.2.2.1)
          have n3 := pre_no (c := 33) (r := [61]) (fun e he => (isW_not (hh e he)).2.2.2.2.2)
          unfold parseClB
          rw [hno33, cz2, ca, n1, n2, n3, if_neg (by decide), if_neg (by simp), if_neg (by decide), if_neg (by decide), if_neg (by decide), ← hX]
          exact many_pad k key _ w n hwd hs (by simp)
      rcases hk with rfl | rfl
      · exact key2 [105, 110] (.inl ⟨rfl, rfl⟩) rfl
      · exact key2 [110, 111, 116, 105, 110] (.inr ⟨rfl, rfl⟩) rfl
  · subst hv
    rcases hk with rfl | rfl
    · exact plainC hkm
    · refine plainC (fun c hc => ?_)
      have hc : c ∈ 33 :: key := hc
      rcases List.mem_cons.1 hc with rfl | hc
      · rfl
      · exact hkm c hc
theorem fold_of : ∀ (us : List Bytes) (ps acc : List PC), us.map (fun u => parseClB (trimS u)) = ps.map some → (∀ p ∈ ps, p.2.2.length ≤ 16) → acc.length + ps.length ≤ 16 → foldP us acc = .ok (acc ++ ps)
  | [], [], acc, _, _, _ => by simp [foldP]
  | [], p :: ps, acc, h, _, _ => by cases h
  | u :: us, [], acc, h, _, _ => by cases h
  | u :: us, p :: ps, acc, h, hp, hl => by
    simp only [List.map_cons, List.cons.injEq] at h
    have hs : stepP acc u = .ok (acc ++ [p]) := by
      unfold stepP
      rw [if_neg (by simp at hl; omega), h.1]
      simp only
      rw [if_neg (by have := hp p (by simp); omega)]
    unfold foldP
    rw [hs]
    simp only
    rw [fold_of us ps (acc ++ [p]) h.2 (fun q hq => hp q (by simp [hq])) (by simp at hl ⊢; omega)]
    simp
theorem dw_nil {p : UInt8 → Bool} : ∀ {l : Bytes}, l.dropWhile p = [] → ∀ x ∈ l, p x = true
  | [], _, x, hx => by cases hx
  | c :: l, h, x, hx => by
    rw [List.dropWhile_cons] at h
    split at h
    · next hc =>
      rcases List.mem_cons.1 hx with rfl | hx
      · exact hc
      · exact dw_nil h x hx
    · cases h
theorem trim_not {a x : Bytes} (h : ∃ c ∈ x, c ≠ 32) : trimS x ≠ [] := by
  obtain ⟨c, hc, hn⟩ := h
  intro e
  unfold trimS Lib.trimB at e
  have h1 : ∀ d ∈ Lib.trimRightB x 32, (d == 32) = true := by
    unfold Lib.trimLeftB at e
    exact dw_nil e
  unfold Lib.trimRightB at h1
  have h2 : ∀ d ∈ x.reverse.dropWhile (· == 32), (d == 32) = true := fun d hd => h1 d (List.mem_reverse.2 hd)
  cases hr : x.reverse.dropWhile (· == 32) with
  | nil =>
    have := dw_nil hr c (List.mem_reverse.2 hc)
    exact hn (by simpa using this)
  | cons d r =>
    have h3 := h2 d (by rw [hr]; simp)
    have h4 := List.head?_dropWhile_not (p := (· == 32)) (l := x.reverse)
    rw [hr] at h4
    simp only [List.head?_cons] at h4
    simp_all
/-- What was printed is parsed, also with blanks. -/
theorem pad_back {ps : List PC} (n : Nat) (h : printP ps ≠ []) (hl : (padB n (printP ps)).length ≤ 512) : parseB (padB n (printP ps)) = .ok ps := by
  unfold printP at h hl ⊢
  split at h
  · next hc =>
    rw [if_pos hc] at hl ⊢
    simp only [Bool.and_eq_true, decide_eq_true_eq] at hc
    have hr := List.all_eq_true.1 hc.2
    have hne : ps ≠ [] := by rintro rfl; exact h rfl
    have hj := padL_join n [] (ps.map fun p => clT p.1 p.2.1 p.2.2) [] (by simpa using hne)
    rw [List.nil_append, List.append_nil] at hj
    have hw : ∀ u ∈ padL n [] [] (ps.map fun p => clT p.1 p.2.1 p.2.2), walkD 0 u = some 0 := padL_all n [] sps_nil (fun u => walkD 0 u = some 0) _ [] sps_nil (fun t ht a b ha hb => by
      obtain ⟨p, hp, rfl⟩ := List.mem_map.1 ht
      obtain ⟨y, b', e, hb', _, hy, _⟩ := clause_pad n (hr p hp)
      rw [e]
      exact walk_pad ha hb (by have := walk_pad sps_nil hb' hy; simpa using this))
    have hm : (padL n [] [] (ps.map fun p => clT p.1 p.2.1 p.2.2)).map (fun u => parseClB (trimS u)) = ps.map some := by
      have key : ∀ (qs : List PC), (∀ q ∈ qs, rightP q = true) → ∀ pre, Sps pre → (padL n pre [] (qs.map fun p => clT p.1 p.2.1 p.2.2)).map (fun u => parseClB (trimS u)) = qs.map some := by
        intro qs
        have one : ∀ q, rightP q = true → ∀ a b, Sps a → Sps b → parseClB (trimS (a ++ padB n (clT q.1 q.2.1 q.2.2) ++ b)) = some q := fun q hq a b ha hb => by
          obtain ⟨y, b', e, hb', ht, _, hpp⟩ := clause_pad n hq
          rw [e, show a ++ (y ++ b') ++ b = a ++ y ++ (b' ++ b) by simp, trim_pad ha (fun c hc => by rcases List.mem_append.1 hc with h | h; exact hb' c h; exact hb c h) ht, hpp]
        induction qs with
        | nil => intro _ pre _; rfl
        | cons q qs ih =>
          intro hq pre hpre
          cases qs with
          | nil => simp only [List.map_cons, List.map_nil, padL]; rw [one q (hq q (by simp)) pre [] hpre sps_nil]
          | cons q' qs =>
            have := ih (fun x hx => hq x (by simp at hx ⊢; right; exact hx)) (spB n) (sps_spB n)
            simp only [List.map_cons] at this ⊢
            rw [padL, List.map_cons, one q (hq q (by simp)) pre (spB n) hpre (sps_spB n), this]
      exact key ps hr [] sps_nil
    have h16 : ∀ p ∈ ps, p.2.2.length ≤ 16 := fun p hp => by
      rcases (right_form (hr p hp)).2 with ⟨_, _, h⟩ | ⟨_, h⟩
      · exact h
      · rw [h]; simp
    have hnt : trimS (padB n (Lib.join (ps.map fun p => clT p.1 p.2.1 p.2.2) [44])) ≠ [] := by
      refine trim_not (a := []) ?_
      cases ps with
      | nil => exact absurd rfl hne
      | cons p r =>
        obtain ⟨ht, _, _, hn0⟩ := clause_back (hr p (by simp))
        rw [List.map_cons, Lib.join_cons, padB_app]
        cases hc0 : clT p.1 p.2.1 p.2.2 with
        | nil => exact absurd hc0 hn0
        | cons c rest =>
          have hc32 : c ≠ 32 := ht.1 c (by rw [hc0]; rfl)
          refine ⟨c, ?_, hc32⟩
          refine List.mem_append_left _ ?_
          unfold padB
          rw [List.flatMap_cons]
          refine List.mem_append_left _ ?_
          unfold padOne
          split <;> simp
    unfold parseB
    rw [if_neg (by omega), if_neg hnt, hj, parts_join _ (padL_ne (by simpa using hne)) hw, fold_of _ ps [] hm h16 (by simpa using hc.1)]
    simp
  · exact absurd rfl h
end Go.Proofs.YtpkjllliidpgoaaGreatDoor
