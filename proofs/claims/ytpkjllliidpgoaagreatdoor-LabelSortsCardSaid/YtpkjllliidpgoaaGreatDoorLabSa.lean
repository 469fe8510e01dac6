/- Walk of package label's reference: Sort. (gen_labsa.py wrote it.) -/
import Derived.Test.YtpkjllliidpgoaaGreatDoorLabU
import Derived.Test.YtpkjllliidpgoaaGreatDoorLabV
import Derived.Test.YtpkjllliidpgoaaGreatDoorLabW
import Derived.Test.YtpkjllliidpgoaaGreatDoorAppendK
set_option linter.unusedSimpArgs false
set_option linter.unusedVariables false
namespace Go.Proofs.YtpkjllliidpgoaaGreatDoor
open Go.ChangeShapes Go.WideShapes Go.ChangeAt Go.RowKit Go.Base Go.Lab

theorem labF_len (l : List Lb) : (l.flatMap encL).length = l.length * 2 := by
  induction l with
  | nil => rfl
  | cons c l ih => rw [List.flatMap_cons, List.length_append, ih, List.length_cons]; show 2 + _ = _; omega
theorem labF_one (l : List Lb) : ∀ u ∈ l.flatMap encL, u.oneCell' = true := fun u hu => by
  obtain ⟨c, _, h⟩ := List.mem_flatMap.1 hu
  unfold encL at h
  simp only [List.mem_cons, List.not_mem_nil, or_false] at h
  rcases h with rfl | rfl <;> rfl
theorem labF_at (cs : List Lb) : ∀ (i : Nat) (h : i < cs.length) (j : Nat), j < 2 → (cs.flatMap encL)[i * 2 + j]? = (encL cs[i])[j]? := by
  induction cs with
  | nil => intro i h; cases h
  | cons c cs ih =>
    intro i h j hj
    have h3 : (encL c).length = 2 := rfl
    cases i with
    | zero => rw [List.flatMap_cons, Nat.zero_mul, Nat.zero_add, List.getElem?_append_left (by omega)]; rfl
    | succ i =>
      rw [List.flatMap_cons, List.getElem?_append_right (by omega), h3, show (i + 1) * 2 + j - 2 = i * 2 + j by omega, ih i (by simpa using h) j hj]
      rfl
theorem labF_src {w : World} {A : Option Addr} {l : List Lb} (h : Labs w A l) {n : Nat} (hn : l.length = n) : 0 < n → ∃ ad, A = some ad ∧ ∀ j u, (l.flatMap encL)[j]? = some u → w.cell? (ad.add j) = some u := fun h0 => by
  obtain ⟨b, o, rfl, _⟩ := h 0 (by omega)
  refine ⟨_, rfl, fun j u hu => ?_⟩
  have hj : j < l.length * 2 := by have := (List.getElem?_eq_some_iff.1 hu).1; rwa [labF_len] at this
  have hadd : (⟨b, o, none⟩ : Addr).add j = ⟨b, o + j, none⟩ := by unfold Addr.add; split <;> simp_all
  rw [hadd]
  have hi : j / 2 < l.length := by omega
  obtain ⟨b', o', e, c0, c1, _⟩ := h (j / 2) hi
  injection e with e; injection e with e1 e2 _; subst e1; subst e2
  have hq := labF_at l (j / 2) hi (j % 2) (Nat.mod_lt _ (by omega))
  rw [show j / 2 * 2 + j % 2 = j by omega, hu] at hq
  rcases (by omega : j % 2 = 0 ∨ j % 2 = 1) with e | e <;> rw [e] at hq
  · rw [show o + j = o + j / 2 * 2 by omega, c0]; exact hq.symm
  · rw [show o + j = o + j / 2 * 2 + 1 by omega, c1]; exact hq.symm
theorem labF_own {w : World} {base n : Nat} {A : Option Addr} {cap : Nat} {l : List Lb} (h : w.ownsRow base 46 2 (.slice A n cap) n (l.flatMap encL)) (hn : l.length = n) (hf : ∀ x ∈ l, x.key.length ≤ maxLen ∧ x.val.length ≤ maxLen) : Labs w A l := fun i hi => by
  have key : ∀ j, j < 2 → ∃ g, A = some ⟨g, 0, none⟩ ∧ w.cell? ⟨g, i * 2 + j, none⟩ = (encL l[i])[j]? := fun j hj => by
    obtain ⟨g, e, hc⟩ := own_cell h rfl (i * 2 + j) (by omega)
    exact ⟨g, e, by rw [hc, labF_at l i hi j hj]⟩
  obtain ⟨g, e, k0⟩ := key 0 (by omega)
  obtain ⟨g1, e1, k1⟩ := key 1 (by omega)
  rw [e] at e1
  injection e1 with e1; injection e1 with e1 _ _; subst e1
  exact ⟨g, 0, e, by rw [Nat.zero_add]; exact k0, by rw [Nat.zero_add]; exact k1, hf _ (List.getElem_mem _)⟩
theorem labs_drop {w : World} {b o : Nat} {l : List Lb} (h : Labs w (some ⟨b, o, none⟩) l) (t : Nat) : Labs w (some ⟨b, o + t * 2, none⟩) (l.drop t) := fun i hi => by
  have hi2 : t + i < l.length := by rw [List.length_drop] at hi; omega
  obtain ⟨b', o', e, c0, c1, k0, k1⟩ := h (t + i) hi2
  injection e with e; injection e with e1 e2 _; subst e1; subst e2
  rw [List.getElem_drop]
  exact ⟨b, o + t * 2, rfl, by rw [show o + t * 2 + i * 2 = o + (t + i) * 2 by omega]; exact c0, by rw [show o + t * 2 + i * 2 + 1 = o + (t + i) * 2 + 1 by omega]; exact c1, k0, k1⟩
theorem one_src {w : World} {g : Nat} {xk xv : Bytes} (h : w.heap[g]? = some (.cells #[strV xk, strV xv] 46 (0, 0))) : ∀ j u, ([strV xk, strV xv] : List Value)[j]? = some u → w.cell? ((⟨g, 0, none⟩ : Addr).add j) = some u := fun j u hu => by
  have hadd : (⟨g, 0, none⟩ : Addr).add j = ⟨g, j, none⟩ := by unfold Addr.add; split <;> simp_all
  rw [hadd, (cells_of_heap h).1]
  match j, hu with
  | 0, hu => simpa using hu
  | 1, hu => simpa using hu
theorem one_one (xk xv : Bytes) : ∀ u ∈ ([strV xk, strV xv] : List Value), u.oneCell' = true := fun u hu => by
  simp only [List.mem_cons, List.not_mem_nil, or_false] at hu
  rcases hu with rfl | rfl <;> rfl
theorem own_drew {w : World} {base n size : Nat} {e : TypeId} {v : Value} {xs : List Value} (h : w.ownsRow base e size v n xs) : w.drew.ownsRow base e size v n xs := h
theorem insAll_app (a b out : List Lb) : insAll out (a ++ b) = (insAll out a).bind fun o => insAll o b := by
  induction a generalizing out with
  | nil => rfl
  | cons x a ih =>
    show (insStep out x).bind (fun o => insAll o (a ++ b)) = ((insStep out x).bind fun o => insAll o a).bind fun o => insAll o b
    cases insStep out x with
    | none => rfl
    | some o => exact ih o
theorem ins_next {l o : List Lb} {k : Nat} (hk : k < l.length) (h : insAll [] (l.take k) = some o) : insAll [] (l.take (k + 1)) = insStep o l[k] := by
  rw [List.take_succ_eq_append_getElem hk, insAll_app, h]
  show (insStep o l[k]).bind _ = _
  cases insStep o l[k] <;> rfl
theorem ins_stop {l o : List Lb} {k : Nat} (hk : k < l.length) (h : insAll [] (l.take k) = some o) (hs : insStep o l[k] = none) : insAll [] l = none := by
  have e : l = l.take (k + 1) ++ l.drop (k + 1) := (List.take_append_drop _ _).symm
  rw [e, insAll_app, ins_next hk h, hs]; rfl
theorem spot_at {o : List Lb} {x : Lb} {t : Nat} (ht : t ≤ o.length) (h : ∀ y ∈ o.take t, ltK y x = true) (he : t = o.length ∨ ∃ y, o[t]? = some y ∧ ltK y x = false) : spotOf o x = t := by
  unfold spotOf
  induction o generalizing t with
  | nil => simp at ht; subst ht; rfl
  | cons y o ih =>
    cases t with
    | zero =>
      rcases he with he | ⟨z, hz, hn⟩
      · simp at he
      · simp at hz; subst hz; simp [List.takeWhile_cons, hn]
    | succ t =>
      have hc : ltK y x = true := h y (by simp)
      rw [List.takeWhile_cons, hc]
      simp only [if_true, List.length_cons]
      rw [ih (by simpa using ht) (fun z hz => h z (by simp [hz])) (by simpa using he)]
theorem step_none {o : List Lb} {x y : Lb} {t : Nat} (hs : spotOf o x = t) (h : o[t]? = some y) (he : y.key = x.key) : insStep o x = none := by
  unfold insStep; rw [hs, h]; simp [he]
theorem step_some {o : List Lb} {x : Lb} {t : Nat} (hs : spotOf o x = t) (h : ∀ y, o[t]? = some y → y.key ≠ x.key) : insStep o x = some (o.take t ++ x :: o.drop t) := by
  unfold insStep; rw [hs, if_neg]
  cases hy : o[t]? with
  | none => simp
  | some y => have := h y hy; simpa using this
theorem row_next {w : World} {base n t : Nat} {v : Value} {xk xv : Bytes} {l2 : List Lb} (h : w.ownsRow base 46 2 v n (((l2.take t).flatMap encL ++ [strV xk, strV xv]) ++ (l2.drop t).flatMap encL)) :
    w.ownsRow base 46 2 v n ((l2.take t ++ ⟨xk, xv⟩ :: l2.drop t).flatMap encL) := by
  have e : (l2.take t ++ ⟨xk, xv⟩ :: l2.drop t).flatMap encL = (((l2.take t).flatMap encL ++ [strV xk, strV xv]) ++ (l2.drop t).flatMap encL) := by
    rw [List.flatMap_append, List.flatMap_cons, List.append_assoc]; rfl
  rw [e]; exact h
theorem own_end {w : World} {base n cap : Nat} {e : TypeId} {A : Option Addr} {xs : List Value} {size : Nat} (h : w.ownsRow base e size (.slice A n cap) n xs) : n ≤ cap ∧ ((A = none ∧ cap = 0) ∨ ∃ g, A = some ⟨g, 0, none⟩) := by
  rcases h.2 with ⟨h1, h2⟩ | ⟨g, cap', cur, h1, _, _, h4, _⟩
  · injection h1 with h1 h3 h4; subst h1; subst h4; exact ⟨by omega, .inl ⟨rfl, rfl⟩⟩
  · injection h1 with h1 h3 h5; subst h1; subst h5; exact ⟨h4, .inr ⟨g, rfl⟩⟩
theorem lens_next {l2 : List Lb} {xk xv : Bytes} (h : ∀ x ∈ l2, x.key.length ≤ maxLen ∧ x.val.length ≤ maxLen) (hx : xk.length ≤ maxLen ∧ xv.length ≤ maxLen) (t : Nat) : ∀ x ∈ l2.take t ++ ⟨xk, xv⟩ :: l2.drop t, x.key.length ≤ maxLen ∧ x.val.length ≤ maxLen := fun x hm => by
  rcases List.mem_append.1 hm with hm | hm
  · exact h x (List.mem_of_mem_take hm)
  · rcases List.mem_cons.1 hm with rfl | hm
    · exact hx
    · exact h x (List.mem_of_mem_drop hm)
theorem at_world {C P : World → Prop} {W : World} (h : P W) (h2 : ∀ V, P V → C V) : C W := h2 _ h
def RSrtPost (w : World) (l : List Lb) (e : Ending) (w' : World) : Prop :=
  (∀ c, sortB l = .error c → e = .returned (.tuple #[.slice none 0 0, .int .i64 c])) ∧
  (∀ o, sortB l = .ok o → ∃ A cap, e = .returned (.tuple #[.slice A o.length cap, .int .i64 0]) ∧ Labs w' A o) ∧ Below w.heap.size w w'
theorem rsrt_err {w w' : World} {l : List Lb} {c : Int} (h : sortB l = .error c) (hb : Below w.heap.size w w') : RSrtPost w l (.returned (.tuple #[.slice none 0 0, .int .i64 c])) w' :=
  ⟨(fun c' h' => by rw [h] at h'; injection h' with h'; subst h'; rfl), (fun o h' => by rw [h] at h'; cases h'), hb⟩
theorem rsrt_ok {w w' : World} {l d : List Lb} {A : Option Addr} {n cap : Nat} (h : sortB l = .ok d) (hd : d.length = n) (hl : Labs w' A d) (hb : Below w.heap.size w w') : RSrtPost w l (.returned (.tuple #[.slice A n cap, .int .i64 0])) w' :=
  ⟨(fun c' h' => by rw [h] at h'; cases h'), (fun o h' => by rw [h] at h'; injection h' with h'; subst h'; exact ⟨_, _, by rw [hd], hl⟩), hb⟩
set_option maxHeartbeats 16000000 in
set_option maxRecDepth 20000 in
theorem refSort_any (A : Option Addr) (l : List Lb) (c : Nat) (w : World) (hL : Labs w A l) (hm : l.length ≤ 4398046511104) :
    Calls Tryz.prog 9 #[.slice A l.length c] w (RSrtPost w l) := by
  have HL := Lib.hid hL
  have hm' : (l.length : Int) ≤ 4398046511104 := by omega
  have HS : Hid (sortB l = if l.all mayOne = false then .error 40 else match insAll [] l with | none => .error 5 | some o => if 16 < l.length then .error 3 else .ok o) := Lib.hid rfl
  obtain ⟨i0, hinfo, hz0, hz1, hz2⟩ := info_parts (P := Tryz.prog) (e := 46) (z := .agg #[.string ⟨#[]⟩, .string ⟨#[]⟩]) (size := 2) (bytes := 32) (by kernel_rfl)
  clear hL
  go_enter Tryz.func9, Tryz.ntmps9
  go_wp2
  go_loop [4] (fun i => ∃ k : Nat, k ≤ l.length ∧ i = .int .i64 (k : Int) ∧ Hid (∀ x ∈ l.take k, mayOne x = true)) (fun i => l.length - (intOf i).toNat)
  case atStart => exact ⟨0, Nat.zero_le _, rfl, Lib.hid (by simp)⟩
  case round =>
    obtain ⟨k, hk, rfl, HF⟩ := hrel
    by_cases hlt : k < l.length
    · have hlt' : (k : Int) < (l.length : Int) := by omega
      have hk0 : (0 : Int) ≤ (k : Int) := by omega
      obtain ⟨b, o, rfl, c0, c1, hx1, hx2⟩ := HL.out k hlt
      have HT := Lib.hid (take_mem (p := fun x => mayOne x = true) hlt HF.out)
      have HG : Hid (mayOne l[k] = false → sortB l = .error 40) := Lib.hid (fun h => by
        rw [HS.out, List.all_eq_false.2 ⟨l[k], List.getElem_mem _, by rw [h]; decide⟩, if_pos rfl])
      have HMW := Lib.hid (fun V => refWord_l l[k].key hx1 V)
      have HMV := Lib.hid (fun V => refVal_l l[k].val hx2 V)
      have HMO : Hid (mayOne l[k] = (wordB l[k].key && valB l[k].val)) := Lib.hid rfl
      clear hx1 hx2
      cases h1 : wordB l[k].key
      · have HV : Hid (sortB l = .error 40) := Lib.hid (HG.out (by rw [HMO.out, h1]; rfl))
        rw [h1] at HMW
        clear HMV HG HT HMO h1
        generalize l[k] = x at *
        obtain ⟨xk, xv⟩ := x
        simp only at c0 c1 HMW
        go_wp2_with (go_at_call 17; refine Calls.mono (by with_reducible exact HMW.out _) ?_; rintro e w2 ⟨rfl, rfl⟩)
        go_ret2
        exact rsrt_err HV.out (Below.refl _ _)
      · cases h2 : valB l[k].val
        · have HV : Hid (sortB l = .error 40) := Lib.hid (HG.out (by rw [HMO.out, h1, h2]; rfl))
          rw [h1] at HMW
          rw [h2] at HMV
          clear HG HT HMO h1 h2
          generalize l[k] = x at *
          obtain ⟨xk, xv⟩ := x
          simp only at c0 c1 HMW HMV
          go_wp2_with (first | (go_at_call 17; refine Calls.mono (by with_reducible exact HMW.out _) ?_; rintro e w2 ⟨rfl, rfl⟩) | (go_at_call 27; refine Calls.mono (by with_reducible exact HMV.out _) ?_; rintro e w2 ⟨rfl, rfl⟩))
          go_ret2
          exact rsrt_err HV.out (Below.refl _ _)
        · have HT2 := Lib.hid (HT.out (by rw [HMO.out, h1, h2]; rfl))
          rw [h1] at HMW
          rw [h2] at HMV
          clear HG HT HMO h1 h2
          generalize l[k] = x at *
          obtain ⟨xk, xv⟩ := x
          simp only at c0 c1 HMW HMV
          go_wp2_with (first | (go_at_call 17; refine Calls.mono (by with_reducible exact HMW.out _) ?_; rintro e w2 ⟨rfl, rfl⟩) | (go_at_call 27; refine Calls.mono (by with_reducible exact HMV.out _) ?_; rintro e w2 ⟨rfl, rfl⟩))
          go_round
          case rel => exact ⟨k + 1, by omega, by go_num, HT2⟩
          case measure => simp [intOf]; omega
    · obtain rfl : k = l.length := by omega
      have HAll : Hid (l.all mayOne = true) := Lib.hid (List.all_eq_true.2 (fun x hx => HF.out x (by rw [List.take_length]; exact hx)))
      have HS2 : Hid (sortB l = match insAll [] l with | none => .error 5 | some o => if 16 < l.length then .error 3 else .ok o) := Lib.hid (by rw [HS.out, HAll.out, if_neg (by decide)])
      have HN5 : Hid (insAll [] l = none → sortB l = .error 5) := Lib.hid (fun h => by rw [HS2.out, h])
      have HOk : Hid (∀ o, insAll [] l = some o → sortB l = if 16 < l.length then .error 3 else .ok o) := Lib.hid (fun o h => by rw [HS2.out, h])
      clear hlt hk HF HAll HS HS2
      go_wp2
      go_loopw [5, 6] (fun out i wr => ∃ (k : Nat) (l2 : List Lb) (A2 : Option Addr) (cap : Nat), k ≤ l.length ∧ i = .int .i64 (k : Int) ∧ out = .slice A2 k cap ∧ Hid (l2.length = k) ∧ k ≤ cap ∧ Hid (insAll [] (l.take k) = some l2) ∧ Hid (Labs wr A2 l2) ∧ Hid ((A2 = none ∧ cap = 0) ∨ ∃ g, A2 = some ⟨g, 0, none⟩) ∧ Hid (Below w.heap.size w wr)) (fun _ i _ => l.length - (intOf i).toNat)
      case atStart => exact ⟨0, [], none, 0, Nat.zero_le _, rfl, rfl, Lib.hid rfl, Nat.le_refl _, Lib.hid rfl, Lib.hid (fun i h => by cases h), Lib.hid (.inl ⟨rfl, rfl⟩), Lib.hid (Below.refl _ _)⟩
      case round =>
        obtain ⟨k, l2, A2, cap, hk, rfl, rfl, HLN, hcap, HI, HLo, HA2, HB⟩ := hrel
        by_cases hlt : k < l.length
        · have hlt' : (k : Int) < (l.length : Int) := by omega
          have hk0 : (0 : Int) ≤ (k : Int) := by omega
          have hl2' : (k : Int) ≤ 4398046511104 := by omega
          obtain ⟨b, o', rfl, c0, c1, hx1, hx2⟩ := (HL.out.later HB.out) k hlt
          have HX := Lib.hid (And.intro hx1 hx2)
          have HNx := Lib.hid (ins_next hlt HI.out)
          have HSt := Lib.hid (ins_stop hlt HI.out)
          clear hx1 hx2 HI
          generalize l[k] = x at *
          go_wp2
          go_loopw [7] (fun j wq => ∃ t : Nat, t ≤ k ∧ j = .int .i64 (t : Int) ∧ Hid (∀ y ∈ l2.take t, ltK y x = true) ∧ Hid (Below wr.heap.size wr wq)) (fun j _ => k - (intOf j).toNat)
          case atStart => exact ⟨0, Nat.zero_le _, rfl, Lib.hid (by simp), Lib.hid (Below.refl _ _)⟩
          case round =>
            obtain ⟨t, ht, rfl, HTk, HBq⟩ := hrel
            have e0 := cell_later HBq.out c0
            have e1 := cell_later HBq.out c1
            by_cases htk : t < k
            · have htl : t < l2.length := by have := HLN.out; omega
              have htl' : (t : Int) < (k : Int) := by omega
              have hdk : decide (t < k) = true := by simpa using htk
              have ht0 : (0 : Int) ≤ (t : Int) := by omega
              obtain ⟨g, q, rfl, d0, d1, _⟩ := (HLo.out.later HBq.out) t htl
              have HT2 := Lib.hid (take_mem (p := fun y => ltK y x = true) htl HTk.out)
              have HG0 : Hid (l2[t]? = some l2[t]) := Lib.hid (List.getElem?_eq_getElem htl)
              have HLt : Hid (ltK l2[t] x = Go.Op.bytesLess l2[t].key x.key) := Lib.hid rfl
              generalize l2[t] = y at *
              clear htl
              cases hy : Go.Op.bytesLess y.key x.key
              · have HSp := Lib.hid (spot_at (x := x) (by have := HLN.out; omega) HTk.out (.inr ⟨y, HG0.out, by rw [HLt.out, hy]⟩))
                have HNo : Hid (y.key = x.key → sortB l = .error 5) := Lib.hid (fun h => HN5.out (HSt.out (step_none HSp.out HG0.out h)))
                have HYes : Hid (y.key ≠ x.key → insStep l2 x = some (l2.take t ++ x :: l2.drop t)) := Lib.hid (fun h => step_some HSp.out (fun z hz => by rw [HG0.out] at hz; injection hz with hz; subst hz; exact h))
                clear HT2 HLt HG0 HSp HTk HN5 HSt
                obtain ⟨xk, xv⟩ := x
                obtain ⟨yk, yv⟩ := y
                simp only at d0 d1 e0 e1 hy HNo HYes
                have hHA := HA2.out
                rcases hHA with ⟨hbad, _⟩ | ⟨g', hg'⟩
                · cases hbad
                injection hg' with hg'
                injection hg' with hg1 hg2 _
                subst hg1
                subst hg2
                rw [Nat.zero_add] at d0 d1
                cases ek : (yk == xk)
                · have HNS := Lib.hid (HYes.out (by intro e; subst e; simp at ek))
                  clear HNo HYes
                  go_wp2_with fail
                  go_quiet (fail)
                  go_wp2_with fail
                  go_quiet (fail)
                  go_wp2_with fail
                  refine at_world (C := fun V => Code.wp _ _ _ _ V) (P := fun V => Below wr.heap.size wr V) (below_drewN (below_drewN (Below.refl _ _) _) _) (fun W0 hW0 => ?_)
                  have e0 := cell_later hW0 e0
                  have e1 := cell_later hW0 e1
                  have HLw := Lib.hid ((HLo.out.later HBq.out).later hW0)
                  have HBW := Lib.hid (HB.out.trans ((HBq.out.trans (hW0.mono HBq.out.size)).mono HB.out.size))
                  have hct : ¬ cap = t := by omega
                  have htc : (t : Int) ≤ (cap : Int) := by omega
                  have htn : t ≤ k := ht
                  clear hW0 d0 d1 HLo HBq HB hy ek
                  have HD : Hid (∀ V, Below W0.heap.size W0 V → (fun w' => w'.cell? ⟨b, o' + k * 2, none⟩ = some (strV xk) ∧ w'.cell? ⟨b, o' + k * 2 + 1, none⟩ = some (strV xv) ∧ Below W0.heap.size W0 w') V) := Lib.hid (fun V h => ⟨cell_later h e0, cell_later h e1, h⟩)
                  refine wp_region_held_drew (S := (fun w' => w'.cell? ⟨b, o' + k * 2, none⟩ = some (strV xk) ∧ w'.cell? ⟨b, o' + k * 2 + 1, none⟩ = some (strV xv) ∧ Below W0.heap.size W0 w')) (by kernel_rfl) (HD.out _ (Below.refl _ _).drew) (fun hHeld => ?_)
                  clear e0 e1
                  refine wpAnyH_take (i := 1) (v := ?vv1) rfl (by kernel_rfl) (by kernel_rfl) (by kernel_rfl) (fun _ _ _ h => h) (Or.inl ⟨by rfl, ?hy1⟩) hHeld ?rr1
                  case hy1 => (intro w' hSw; obtain ⟨g0, g1, g2⟩ := hSw; go_simp; try with_reducible rfl)
                  try simp only [Act.put, List.setIfInBounds_toArray, List.set_cons_zero, List.set_cons_succ, List.getElem_toArray, List.getElem_cons_succ, List.getElem_cons_zero]
                  refine wpAnyH_take (i := 2) (v := ?vv2) rfl (by kernel_rfl) (by kernel_rfl) (by kernel_rfl) (fun _ _ _ h => h) (Or.inl ⟨by rfl, ?hy2⟩) hHeld ?rr2
                  case hy2 => (intro w' hSw; obtain ⟨g0, g1, g2⟩ := hSw; go_simp; try with_reducible rfl)
                  try simp only [Act.put, List.setIfInBounds_toArray, List.set_cons_zero, List.set_cons_succ, List.getElem_toArray, List.getElem_cons_succ, List.getElem_cons_zero]
                  refine wpAnyH_take (i := 3) (v := ?vv3) rfl (by kernel_rfl) (by kernel_rfl) (by kernel_rfl) (fun _ _ _ h => h) (Or.inl ⟨by rfl, ?hy3⟩) hHeld ?rr3
                  case hy3 => (intro w' hSw; obtain ⟨g0, g1, g2⟩ := hSw; go_simp; try with_reducible rfl)
                  try simp only [Act.put, List.setIfInBounds_toArray, List.set_cons_zero, List.set_cons_succ, List.getElem_toArray, List.getElem_cons_succ, List.getElem_cons_zero]
                  refine wpAnyH_take (i := 5) (v := ?vv4) rfl (by kernel_rfl) (by kernel_rfl) (by kernel_rfl) (fun _ _ _ h => h) (Or.inl ⟨by rfl, ?hy4⟩) hHeld ?rr4
                  case hy4 => (intro w' hSw; obtain ⟨g0, g1, g2⟩ := hSw; go_simp; try with_reducible rfl)
                  try simp only [Act.put, List.setIfInBounds_toArray, List.set_cons_zero, List.set_cons_succ, List.getElem_toArray, List.getElem_cons_succ, List.getElem_cons_zero]
                  refine wpAnyH_take (i := 6) (v := ?vv5) rfl (by kernel_rfl) (by kernel_rfl) (by kernel_rfl) (fun _ _ _ h => h) (Or.inl ⟨by rfl, ?hy5⟩) hHeld ?rr5
                  case hy5 => (intro w' hSw; obtain ⟨g0, g1, g2⟩ := hSw; go_simp; try with_reducible rfl)
                  try simp only [Act.put, List.setIfInBounds_toArray, List.set_cons_zero, List.set_cons_succ, List.getElem_toArray, List.getElem_cons_succ, List.getElem_cons_zero]
                  refine wpAnyH_take (i := 7) (v := ?vv6) rfl (by kernel_rfl) (by kernel_rfl) (by kernel_rfl) (fun _ _ _ h => h) (Or.inl ⟨by rfl, ?hy6⟩) hHeld ?rr6
                  case hy6 => (intro w' hSw; obtain ⟨g0, g1, g2⟩ := hSw; go_simp; try with_reducible rfl)
                  try simp only [Act.put, List.setIfInBounds_toArray, List.set_cons_zero, List.set_cons_succ, List.getElem_toArray, List.getElem_cons_succ, List.getElem_cons_zero]
                  refine wpAnyH_take (i := 8) (v := ?vv7) rfl (by kernel_rfl) (by kernel_rfl) (by kernel_rfl) (fun _ _ _ h => h) (Or.inl ⟨by rfl, ?hy7⟩) hHeld ?rr7
                  case hy7 => (intro w' hSw; obtain ⟨g0, g1, g2⟩ := hSw; go_simp; try with_reducible rfl)
                  try simp only [Act.put, List.setIfInBounds_toArray, List.set_cons_zero, List.set_cons_succ, List.getElem_toArray, List.getElem_cons_succ, List.getElem_cons_zero]
                  refine wpAnyH_take (i := 11) (v := ?vv8) rfl (by kernel_rfl) (by kernel_rfl) (by kernel_rfl) (fun _ _ _ h => h) (Or.inl ⟨by rfl, ?hy8⟩) hHeld ?rr8
                  case hy8 => (intro w' hSw; obtain ⟨g0, g1, g2⟩ := hSw; go_simp; try with_reducible rfl)
                  try simp only [Act.put, List.setIfInBounds_toArray, List.set_cons_zero, List.set_cons_succ, List.getElem_toArray, List.getElem_cons_succ, List.getElem_cons_zero]
                  refine wpAnyH_take (i := 12) (v := ?vv9) rfl (by kernel_rfl) (by kernel_rfl) (by kernel_rfl) (fun _ _ _ h => h) (Or.inl ⟨by rfl, ?hy9⟩) hHeld ?rr9
                  case hy9 => (intro w' hSw; obtain ⟨g0, g1, g2⟩ := hSw; go_simp; try with_reducible rfl)
                  try simp only [Act.put, List.setIfInBounds_toArray, List.set_cons_zero, List.set_cons_succ, List.getElem_toArray, List.getElem_cons_succ, List.getElem_cons_zero]
                  refine wpAnyH_take (i := 13) (v := ?vv10) rfl (by kernel_rfl) (by kernel_rfl) (by kernel_rfl) (fun _ _ _ h => h) (Or.inl ⟨by rfl, ?hy10⟩) hHeld ?rr10
                  case hy10 => (intro w' hSw; obtain ⟨g0, g1, g2⟩ := hSw; go_simp; try with_reducible rfl)
                  try simp only [Act.put, List.setIfInBounds_toArray, List.set_cons_zero, List.set_cons_succ, List.getElem_toArray, List.getElem_cons_succ, List.getElem_cons_zero]
                  refine wpAnyH_ready (rs := [0, 9]) (by kernel_rfl) (by simp) ?_
                  refine AllReadyH.cons rfl (fun K hK => ?x11a) (AllReadyH.cons rfl (fun K hK => ?x11b) AllReadyH.nil)
                  case x11a =>
                    rw [if_pos (by rfl)]
                    go_simp
                    have hB0 : Below W0.heap.size W0 ((W0.alloc (.cells #[] 46)).drew) := (below_alloc _ _).drew
                    have hsz0 : W0.heap.size < ((W0.alloc (.cells #[] 46)).drew).heap.size := by show W0.heap.size < (W0.alloc _).heap.size; simp
                    have hO0 : ((W0.alloc (.cells #[] 46)).drew).ownsRow (W0.heap.size) 46 2 (.slice (some ⟨W0.heap.size, 0, none⟩) 0 0) 0 [] := own_drew (World.ownsRow_made W0 #[] 0 (Nat.le_refl _) (Nat.zero_le _) rfl)
                    have hs0 : W0.heap.size ≤ ((W0.alloc (.cells #[] 46)).drew).heap.size := Nat.le_of_lt hsz0
                    have hR0 : W0.heap.size ≤ W0.heap.size := Nat.le_refl _
                    generalize (W0.alloc (.cells #[] 46)).drew = V0 at *
                    refine hK.out _ _ (HD.out _ hB0) (fun hHeld2 => ?_)
                    clear hK K hHeld
                    have hHeld := hHeld2
                    clear hHeld2
                    try simp only [Act.put, List.setIfInBounds_toArray, List.set_cons_zero, List.set_cons_succ, List.getElem_toArray, List.getElem_cons_succ, List.getElem_cons_zero]
                    refine wpAnyH_ready (rs := [4, 9]) (by kernel_rfl) (by simp) ?_
                    refine AllReadyH.cons rfl (fun K hK => ?x12a) (AllReadyH.cons rfl (fun K hK => ?x12b) AllReadyH.nil)
                    case x12a =>
                      rw [if_pos (by rfl)]
                      refine oper_append_k _ (.tmp 72) (.tmp 75) 22 rfl 46 i0 (.agg #[.string ⟨#[]⟩, .string ⟨#[]⟩]) 2 32 Tryz.underlying22 hinfo hz0 hz1 hz2 rfl (by decide) (W0.heap.size) _ 0 [] rfl hO0 (some ⟨g, 0, none⟩) t cap ((l2.take t).flatMap encL) rfl (by rw [labF_len, List.length_take, HLN.out, Nat.min_eq_left ht]) (labF_src (labs_take (HLw.out.later hB0) t) (by rw [List.length_take, HLN.out, Nat.min_eq_left ht])) (labF_one _) (by unfold maxLen; omega) (by omega) hs0 ?_
                      intro A1 c1 V1 hO1 hgrow1 _
                      rw [Nat.zero_add, List.nil_append] at hO1
                      rw [Nat.zero_add]
                      have hB1 : Below W0.heap.size W0 V1 := hB0.grown hgrow1 hB0.size (fun j e => Nat.le_trans hR0 (hO0.lt j e).1)
                      have hs1 : (W0.heap.size) ≤ V1.heap.size := Nat.le_trans hs0 hgrow1.size
                      refine hK.out _ _ (HD.out _ hB1) (fun hHeld2 => ?_)
                      clear hK K hHeld
                      have hHeld := hHeld2
                      clear hHeld2
                      try simp only [Act.put, List.setIfInBounds_toArray, List.set_cons_zero, List.set_cons_succ, List.getElem_toArray, List.getElem_cons_succ, List.getElem_cons_zero]
                      refine wpAnyH_ready (rs := [9]) (by kernel_rfl) (by simp) ?_
                      refine AllReadyH.cons rfl (fun K hK => ?_) AllReadyH.nil
                      rw [if_pos (by rfl)]
                      go_simp
                      have hB2 : Below W0.heap.size W0 (V1.alloc (.cells #[strV xk, strV xv] 46)) := hB1.alloc hB1.size _
                      have hsz2 : V1.heap.size < (V1.alloc (.cells #[strV xk, strV xv] 46)).heap.size := by simp
                      have hO2 := hO1.alloc (.cells #[strV xk, strV xv] 46)
                      have hs2 : (W0.heap.size) ≤ (V1.alloc (.cells #[strV xk, strV xv] 46)).heap.size := Nat.le_trans hs1 (by simp)
                      have hX2 : (V1.alloc (.cells #[strV xk, strV xv] 46)).heap[V1.heap.size]? = some (.cells #[strV xk, strV xv] 46 (0, 0)) := heap_new V1 _
                      generalize V1.alloc (.cells #[strV xk, strV xv] 46) = V2 at *
                      refine hK.out _ _ (HD.out _ hB2) (fun hHeld2 => ?_)
                      clear hK K hHeld
                      have hHeld := hHeld2
                      clear hHeld2
                      try simp only [Act.put, List.setIfInBounds_toArray, List.set_cons_zero, List.set_cons_succ, List.getElem_toArray, List.getElem_cons_succ, List.getElem_cons_zero]
                      refine wpAnyH_ready (rs := [10]) (by kernel_rfl) (by simp) ?_
                      refine AllReadyH.cons rfl (fun K hK => ?_) AllReadyH.nil
                      rw [if_pos (by rfl)]
                      refine oper_append_k _ (.tmp 76) (.tmp 81) 22 rfl 46 i0 (.agg #[.string ⟨#[]⟩, .string ⟨#[]⟩]) 2 32 Tryz.underlying22 hinfo hz0 hz1 hz2 rfl (by decide) (W0.heap.size) _ t ((l2.take t).flatMap encL) rfl hO2 (some ⟨V1.heap.size, 0, none⟩) 1 1 [strV xk, strV xv] rfl rfl (fun _ => ⟨_, rfl, one_src hX2⟩) (one_one xk xv) (by unfold maxLen; omega) (by omega) hs2 ?_
                      intro A3 c3 V3 hO3 hgrow3 _
                      have hB3 : Below W0.heap.size W0 V3 := hB2.grown hgrow3 hB2.size (fun j e => Nat.le_trans hR0 (hO2.lt j e).1)
                      have hs3 : (W0.heap.size) ≤ V3.heap.size := Nat.le_trans hs2 hgrow3.size
                      refine hK.out _ _ (HD.out _ hB3) (fun hHeld2 => ?_)
                      clear hK K hHeld
                      have hHeld := hHeld2
                      clear hHeld2
                      try simp only [Act.put, List.setIfInBounds_toArray, List.set_cons_zero, List.set_cons_succ, List.getElem_toArray, List.getElem_cons_succ, List.getElem_cons_zero]
                      refine wpAnyH_ready (rs := [14]) (by kernel_rfl) (by simp) ?_
                      refine AllReadyH.cons rfl (fun K hK => ?_) AllReadyH.nil
                      rw [if_pos (by rfl)]
                      refine oper_append_k _ (.tmp 82) (.tmp 85) 22 rfl 46 i0 (.agg #[.string ⟨#[]⟩, .string ⟨#[]⟩]) 2 32 Tryz.underlying22 hinfo hz0 hz1 hz2 rfl (by decide) (W0.heap.size) _ (t + 1) (((l2.take t).flatMap encL) ++ [strV xk, strV xv]) rfl hO3 (some ⟨g, t * 2, none⟩) (k - t) (cap - t) ((l2.drop t).flatMap encL) rfl (by rw [labF_len, List.length_drop, HLN.out]) (labF_src (by have := labs_drop (HLw.out.later hB3) t; rwa [Nat.zero_add] at this) (by rw [List.length_drop, HLN.out])) (labF_one _) (by unfold maxLen; omega) (by omega) hs3 ?_
                      intro A4 c4 V4 hO4 hgrow4 _
                      have hB4 : Below W0.heap.size W0 V4 := hB3.grown hgrow4 hB3.size (fun j e => Nat.le_trans hR0 (hO3.lt j e).1)
                      have hs4 : (W0.heap.size) ≤ V4.heap.size := Nat.le_trans hs3 hgrow4.size
                      refine hK.out _ _ (HD.out _ hB4) (fun hHeld2 => ?_)
                      clear hK K hHeld
                      have hHeld := hHeld2
                      clear hHeld2
                      try simp only [Act.put, List.setIfInBounds_toArray, List.set_cons_zero, List.set_cons_succ, List.getElem_toArray, List.getElem_cons_succ, List.getElem_cons_zero]
                      refine wpAnyH_take (i := 15) (v := ?vv13) rfl (by kernel_rfl) (by kernel_rfl) (by kernel_rfl) (fun _ _ _ h => h) (Or.inl ⟨by rfl, ?hy13⟩) hHeld ?rr13
                      case hy13 => (intro w' hSw; obtain ⟨g0, g1, g2⟩ := hSw; go_simp; try with_reducible rfl)
                      try simp only [Act.put, List.setIfInBounds_toArray, List.set_cons_zero, List.set_cons_succ, List.getElem_toArray, List.getElem_cons_succ, List.getElem_cons_zero]
                      refine wpAnyH_done (by kernel_rfl) ?_ _
                      clear hHeld HD
                      rw [show t + 1 + (k - t) = k + 1 by omega] at hO4 ⊢
                      have HO := Lib.hid (row_next hO4)
                      have HBn := Lib.hid (HBW.out.trans (hB4.mono HBW.out.size))
                      have HEnd := Lib.hid (own_end hO4)
                      have HK := Lib.hid (lens_next (labs_len HLw.out) HX.out t)
                      clear hB0 hB1 hB2 hB3 hB4 hO4
                      go_wp2
                      go_roundw
                      case rel => exact ⟨k + 1, l2.take t ++ ⟨xk, xv⟩ :: l2.drop t, A4, c4, by omega, by go_num, rfl, Lib.hid (by have := HLN.out; first | (simp; done) | (simp; omega)), HEnd.out.1, Lib.hid (by rw [HNx.out, HNS.out]), Lib.hid (labF_own HO.out (by have := HLN.out; first | (simp; done) | (simp; omega)) HK.out), Lib.hid HEnd.out.2, HBn⟩
                      case measure => simp [intOf]; omega
                    case x12b =>
                      rw [if_pos (by rfl)]
                      go_simp
                      have hB1 : Below W0.heap.size W0 (V0.alloc (.cells #[strV xk, strV xv] 46)) := hB0.alloc hB0.size _
                      have hsz1 : V0.heap.size < (V0.alloc (.cells #[strV xk, strV xv] 46)).heap.size := by simp
                      have hO1 := hO0.alloc (.cells #[strV xk, strV xv] 46)
                      have hs1 : (W0.heap.size) ≤ (V0.alloc (.cells #[strV xk, strV xv] 46)).heap.size := Nat.le_trans hs0 (by simp)
                      have hX1 : (V0.alloc (.cells #[strV xk, strV xv] 46)).heap[V0.heap.size]? = some (.cells #[strV xk, strV xv] 46 (0, 0)) := heap_new V0 _
                      generalize V0.alloc (.cells #[strV xk, strV xv] 46) = V1 at *
                      refine hK.out _ _ (HD.out _ hB1) (fun hHeld2 => ?_)
                      clear hK K hHeld
                      have hHeld := hHeld2
                      clear hHeld2
                      try simp only [Act.put, List.setIfInBounds_toArray, List.set_cons_zero, List.set_cons_succ, List.getElem_toArray, List.getElem_cons_succ, List.getElem_cons_zero]
                      refine wpAnyH_ready (rs := [4]) (by kernel_rfl) (by simp) ?_
                      refine AllReadyH.cons rfl (fun K hK => ?_) AllReadyH.nil
                      rw [if_pos (by rfl)]
                      refine oper_append_k _ (.tmp 72) (.tmp 75) 22 rfl 46 i0 (.agg #[.string ⟨#[]⟩, .string ⟨#[]⟩]) 2 32 Tryz.underlying22 hinfo hz0 hz1 hz2 rfl (by decide) (W0.heap.size) _ 0 [] rfl hO1 (some ⟨g, 0, none⟩) t cap ((l2.take t).flatMap encL) rfl (by rw [labF_len, List.length_take, HLN.out, Nat.min_eq_left ht]) (labF_src (labs_take (HLw.out.later hB1) t) (by rw [List.length_take, HLN.out, Nat.min_eq_left ht])) (labF_one _) (by unfold maxLen; omega) (by omega) hs1 ?_
                      intro A2 c2 V2 hO2 hgrow2 _
                      rw [Nat.zero_add, List.nil_append] at hO2
                      rw [Nat.zero_add]
                      have hB2 : Below W0.heap.size W0 V2 := hB1.grown hgrow2 hB1.size (fun j e => Nat.le_trans hR0 (hO1.lt j e).1)
                      have hs2 : (W0.heap.size) ≤ V2.heap.size := Nat.le_trans hs1 hgrow2.size
                      have hX2 : V2.heap[V0.heap.size]? = some (.cells #[strV xk, strV xv] 46 (0, 0)) := (hgrow2.block _ (heap_lt hX1) (fun e => by have e : some (V0.heap.size) = some (W0.heap.size) := e; injection e with e; omega)).trans hX1
                      refine hK.out _ _ (HD.out _ hB2) (fun hHeld2 => ?_)
                      clear hK K hHeld
                      have hHeld := hHeld2
                      clear hHeld2
                      try simp only [Act.put, List.setIfInBounds_toArray, List.set_cons_zero, List.set_cons_succ, List.getElem_toArray, List.getElem_cons_succ, List.getElem_cons_zero]
                      refine wpAnyH_ready (rs := [10]) (by kernel_rfl) (by simp) ?_
                      refine AllReadyH.cons rfl (fun K hK => ?_) AllReadyH.nil
                      rw [if_pos (by rfl)]
                      refine oper_append_k _ (.tmp 76) (.tmp 81) 22 rfl 46 i0 (.agg #[.string ⟨#[]⟩, .string ⟨#[]⟩]) 2 32 Tryz.underlying22 hinfo hz0 hz1 hz2 rfl (by decide) (W0.heap.size) _ t ((l2.take t).flatMap encL) rfl hO2 (some ⟨V0.heap.size, 0, none⟩) 1 1 [strV xk, strV xv] rfl rfl (fun _ => ⟨_, rfl, one_src hX2⟩) (one_one xk xv) (by unfold maxLen; omega) (by omega) hs2 ?_
                      intro A3 c3 V3 hO3 hgrow3 _
                      have hB3 : Below W0.heap.size W0 V3 := hB2.grown hgrow3 hB2.size (fun j e => Nat.le_trans hR0 (hO2.lt j e).1)
                      have hs3 : (W0.heap.size) ≤ V3.heap.size := Nat.le_trans hs2 hgrow3.size
                      refine hK.out _ _ (HD.out _ hB3) (fun hHeld2 => ?_)
                      clear hK K hHeld
                      have hHeld := hHeld2
                      clear hHeld2
                      try simp only [Act.put, List.setIfInBounds_toArray, List.set_cons_zero, List.set_cons_succ, List.getElem_toArray, List.getElem_cons_succ, List.getElem_cons_zero]
                      refine wpAnyH_ready (rs := [14]) (by kernel_rfl) (by simp) ?_
                      refine AllReadyH.cons rfl (fun K hK => ?_) AllReadyH.nil
                      rw [if_pos (by rfl)]
                      refine oper_append_k _ (.tmp 82) (.tmp 85) 22 rfl 46 i0 (.agg #[.string ⟨#[]⟩, .string ⟨#[]⟩]) 2 32 Tryz.underlying22 hinfo hz0 hz1 hz2 rfl (by decide) (W0.heap.size) _ (t + 1) (((l2.take t).flatMap encL) ++ [strV xk, strV xv]) rfl hO3 (some ⟨g, t * 2, none⟩) (k - t) (cap - t) ((l2.drop t).flatMap encL) rfl (by rw [labF_len, List.length_drop, HLN.out]) (labF_src (by have := labs_drop (HLw.out.later hB3) t; rwa [Nat.zero_add] at this) (by rw [List.length_drop, HLN.out])) (labF_one _) (by unfold maxLen; omega) (by omega) hs3 ?_
                      intro A4 c4 V4 hO4 hgrow4 _
                      have hB4 : Below W0.heap.size W0 V4 := hB3.grown hgrow4 hB3.size (fun j e => Nat.le_trans hR0 (hO3.lt j e).1)
                      have hs4 : (W0.heap.size) ≤ V4.heap.size := Nat.le_trans hs3 hgrow4.size
                      refine hK.out _ _ (HD.out _ hB4) (fun hHeld2 => ?_)
                      clear hK K hHeld
                      have hHeld := hHeld2
                      clear hHeld2
                      try simp only [Act.put, List.setIfInBounds_toArray, List.set_cons_zero, List.set_cons_succ, List.getElem_toArray, List.getElem_cons_succ, List.getElem_cons_zero]
                      refine wpAnyH_take (i := 15) (v := ?vv14) rfl (by kernel_rfl) (by kernel_rfl) (by kernel_rfl) (fun _ _ _ h => h) (Or.inl ⟨by rfl, ?hy14⟩) hHeld ?rr14
                      case hy14 => (intro w' hSw; obtain ⟨g0, g1, g2⟩ := hSw; go_simp; try with_reducible rfl)
                      try simp only [Act.put, List.setIfInBounds_toArray, List.set_cons_zero, List.set_cons_succ, List.getElem_toArray, List.getElem_cons_succ, List.getElem_cons_zero]
                      refine wpAnyH_done (by kernel_rfl) ?_ _
                      clear hHeld HD
                      rw [show t + 1 + (k - t) = k + 1 by omega] at hO4 ⊢
                      have HO := Lib.hid (row_next hO4)
                      have HBn := Lib.hid (HBW.out.trans (hB4.mono HBW.out.size))
                      have HEnd := Lib.hid (own_end hO4)
                      have HK := Lib.hid (lens_next (labs_len HLw.out) HX.out t)
                      clear hB0 hB1 hB2 hB3 hB4 hO4
                      go_wp2
                      go_roundw
                      case rel => exact ⟨k + 1, l2.take t ++ ⟨xk, xv⟩ :: l2.drop t, A4, c4, by omega, by go_num, rfl, Lib.hid (by have := HLN.out; first | (simp; done) | (simp; omega)), HEnd.out.1, Lib.hid (by rw [HNx.out, HNS.out]), Lib.hid (labF_own HO.out (by have := HLN.out; first | (simp; done) | (simp; omega)) HK.out), Lib.hid HEnd.out.2, HBn⟩
                      case measure => simp [intOf]; omega
                  case x11b =>
                    rw [if_pos (by rfl)]
                    go_simp
                    have hB0 : Below W0.heap.size W0 ((W0.alloc (.cells #[strV xk, strV xv] 46)).drew) := (below_alloc _ _).drew
                    have hsz0 : W0.heap.size < ((W0.alloc (.cells #[strV xk, strV xv] 46)).drew).heap.size := by show W0.heap.size < (W0.alloc _).heap.size; simp
                    have hX0 : ((W0.alloc (.cells #[strV xk, strV xv] 46)).drew).heap[W0.heap.size]? = some (.cells #[strV xk, strV xv] 46 (0, 0)) := heap_new W0 _
                    generalize (W0.alloc (.cells #[strV xk, strV xv] 46)).drew = V0 at *
                    refine hK.out _ _ (HD.out _ hB0) (fun hHeld2 => ?_)
                    clear hK K hHeld
                    have hHeld := hHeld2
                    clear hHeld2
                    try simp only [Act.put, List.setIfInBounds_toArray, List.set_cons_zero, List.set_cons_succ, List.getElem_toArray, List.getElem_cons_succ, List.getElem_cons_zero]
                    refine wpAnyH_ready (rs := [0]) (by kernel_rfl) (by simp) ?_
                    refine AllReadyH.cons rfl (fun K hK => ?_) AllReadyH.nil
                    rw [if_pos (by rfl)]
                    go_simp
                    have hB1 : Below W0.heap.size W0 (V0.alloc (.cells #[] 46)) := hB0.alloc hB0.size _
                    have hsz1 : V0.heap.size < (V0.alloc (.cells #[] 46)).heap.size := by simp
                    have hX1 : (V0.alloc (.cells #[] 46)).heap[W0.heap.size]? = some (.cells #[strV xk, strV xv] 46 (0, 0)) := heap_old (.cells #[] 46) (heap_lt hX0) hX0
                    have hO1 : (V0.alloc (.cells #[] 46)).ownsRow (V0.heap.size) 46 2 (.slice (some ⟨V0.heap.size, 0, none⟩) 0 0) 0 [] := World.ownsRow_made V0 #[] 0 (Nat.le_refl _) (Nat.zero_le _) rfl
                    have hs1 : V0.heap.size ≤ (V0.alloc (.cells #[] 46)).heap.size := Nat.le_of_lt hsz1
                    have hR1 : W0.heap.size ≤ V0.heap.size := hB0.size
                    generalize V0.alloc (.cells #[] 46) = V1 at *
                    refine hK.out _ _ (HD.out _ hB1) (fun hHeld2 => ?_)
                    clear hK K hHeld
                    have hHeld := hHeld2
                    clear hHeld2
                    try simp only [Act.put, List.setIfInBounds_toArray, List.set_cons_zero, List.set_cons_succ, List.getElem_toArray, List.getElem_cons_succ, List.getElem_cons_zero]
                    refine wpAnyH_ready (rs := [4]) (by kernel_rfl) (by simp) ?_
                    refine AllReadyH.cons rfl (fun K hK => ?_) AllReadyH.nil
                    rw [if_pos (by rfl)]
                    refine oper_append_k _ (.tmp 72) (.tmp 75) 22 rfl 46 i0 (.agg #[.string ⟨#[]⟩, .string ⟨#[]⟩]) 2 32 Tryz.underlying22 hinfo hz0 hz1 hz2 rfl (by decide) (V0.heap.size) _ 0 [] rfl hO1 (some ⟨g, 0, none⟩) t cap ((l2.take t).flatMap encL) rfl (by rw [labF_len, List.length_take, HLN.out, Nat.min_eq_left ht]) (labF_src (labs_take (HLw.out.later hB1) t) (by rw [List.length_take, HLN.out, Nat.min_eq_left ht])) (labF_one _) (by unfold maxLen; omega) (by omega) hs1 ?_
                    intro A2 c2 V2 hO2 hgrow2 _
                    rw [Nat.zero_add, List.nil_append] at hO2
                    rw [Nat.zero_add]
                    have hB2 : Below W0.heap.size W0 V2 := hB1.grown hgrow2 hB1.size (fun j e => Nat.le_trans hR1 (hO1.lt j e).1)
                    have hs2 : (V0.heap.size) ≤ V2.heap.size := Nat.le_trans hs1 hgrow2.size
                    have hX2 : V2.heap[W0.heap.size]? = some (.cells #[strV xk, strV xv] 46 (0, 0)) := (hgrow2.block _ (heap_lt hX1) (fun e => by have e : some (W0.heap.size) = some (V0.heap.size) := e; injection e with e; omega)).trans hX1
                    refine hK.out _ _ (HD.out _ hB2) (fun hHeld2 => ?_)
                    clear hK K hHeld
                    have hHeld := hHeld2
                    clear hHeld2
                    try simp only [Act.put, List.setIfInBounds_toArray, List.set_cons_zero, List.set_cons_succ, List.getElem_toArray, List.getElem_cons_succ, List.getElem_cons_zero]
                    refine wpAnyH_ready (rs := [10]) (by kernel_rfl) (by simp) ?_
                    refine AllReadyH.cons rfl (fun K hK => ?_) AllReadyH.nil
                    rw [if_pos (by rfl)]
                    refine oper_append_k _ (.tmp 76) (.tmp 81) 22 rfl 46 i0 (.agg #[.string ⟨#[]⟩, .string ⟨#[]⟩]) 2 32 Tryz.underlying22 hinfo hz0 hz1 hz2 rfl (by decide) (V0.heap.size) _ t ((l2.take t).flatMap encL) rfl hO2 (some ⟨W0.heap.size, 0, none⟩) 1 1 [strV xk, strV xv] rfl rfl (fun _ => ⟨_, rfl, one_src hX2⟩) (one_one xk xv) (by unfold maxLen; omega) (by omega) hs2 ?_
                    intro A3 c3 V3 hO3 hgrow3 _
                    have hB3 : Below W0.heap.size W0 V3 := hB2.grown hgrow3 hB2.size (fun j e => Nat.le_trans hR1 (hO2.lt j e).1)
                    have hs3 : (V0.heap.size) ≤ V3.heap.size := Nat.le_trans hs2 hgrow3.size
                    refine hK.out _ _ (HD.out _ hB3) (fun hHeld2 => ?_)
                    clear hK K hHeld
                    have hHeld := hHeld2
                    clear hHeld2
                    try simp only [Act.put, List.setIfInBounds_toArray, List.set_cons_zero, List.set_cons_succ, List.getElem_toArray, List.getElem_cons_succ, List.getElem_cons_zero]
                    refine wpAnyH_ready (rs := [14]) (by kernel_rfl) (by simp) ?_
                    refine AllReadyH.cons rfl (fun K hK => ?_) AllReadyH.nil
                    rw [if_pos (by rfl)]
                    refine oper_append_k _ (.tmp 82) (.tmp 85) 22 rfl 46 i0 (.agg #[.string ⟨#[]⟩, .string ⟨#[]⟩]) 2 32 Tryz.underlying22 hinfo hz0 hz1 hz2 rfl (by decide) (V0.heap.size) _ (t + 1) (((l2.take t).flatMap encL) ++ [strV xk, strV xv]) rfl hO3 (some ⟨g, t * 2, none⟩) (k - t) (cap - t) ((l2.drop t).flatMap encL) rfl (by rw [labF_len, List.length_drop, HLN.out]) (labF_src (by have := labs_drop (HLw.out.later hB3) t; rwa [Nat.zero_add] at this) (by rw [List.length_drop, HLN.out])) (labF_one _) (by unfold maxLen; omega) (by omega) hs3 ?_
                    intro A4 c4 V4 hO4 hgrow4 _
                    have hB4 : Below W0.heap.size W0 V4 := hB3.grown hgrow4 hB3.size (fun j e => Nat.le_trans hR1 (hO3.lt j e).1)
                    have hs4 : (V0.heap.size) ≤ V4.heap.size := Nat.le_trans hs3 hgrow4.size
                    refine hK.out _ _ (HD.out _ hB4) (fun hHeld2 => ?_)
                    clear hK K hHeld
                    have hHeld := hHeld2
                    clear hHeld2
                    try simp only [Act.put, List.setIfInBounds_toArray, List.set_cons_zero, List.set_cons_succ, List.getElem_toArray, List.getElem_cons_succ, List.getElem_cons_zero]
                    refine wpAnyH_take (i := 15) (v := ?vv15) rfl (by kernel_rfl) (by kernel_rfl) (by kernel_rfl) (fun _ _ _ h => h) (Or.inl ⟨by rfl, ?hy15⟩) hHeld ?rr15
                    case hy15 => (intro w' hSw; obtain ⟨g0, g1, g2⟩ := hSw; go_simp; try with_reducible rfl)
                    try simp only [Act.put, List.setIfInBounds_toArray, List.set_cons_zero, List.set_cons_succ, List.getElem_toArray, List.getElem_cons_succ, List.getElem_cons_zero]
                    refine wpAnyH_done (by kernel_rfl) ?_ _
                    clear hHeld HD
                    rw [show t + 1 + (k - t) = k + 1 by omega] at hO4 ⊢
                    have HO := Lib.hid (row_next hO4)
                    have HBn := Lib.hid (HBW.out.trans (hB4.mono HBW.out.size))
                    have HEnd := Lib.hid (own_end hO4)
                    have HK := Lib.hid (lens_next (labs_len HLw.out) HX.out t)
                    clear hB0 hB1 hB2 hB3 hB4 hO4
                    go_wp2
                    go_roundw
                    case rel => exact ⟨k + 1, l2.take t ++ ⟨xk, xv⟩ :: l2.drop t, A4, c4, by omega, by go_num, rfl, Lib.hid (by have := HLN.out; first | (simp; done) | (simp; omega)), HEnd.out.1, Lib.hid (by rw [HNx.out, HNS.out]), Lib.hid (labF_own HO.out (by have := HLN.out; first | (simp; done) | (simp; omega)) HK.out), Lib.hid HEnd.out.2, HBn⟩
                    case measure => simp [intOf]; omega
                · have HV := Lib.hid (HNo.out (eq_of_beq ek))
                  clear HNo HYes
                  go_wp2_with fail
                  go_quiet (fail)
                  go_wp2_with fail
                  go_quiet (fail)
                  go_wp2
                  go_ret2
                  exact rsrt_err HV.out (below_drewN (below_drewN (HB.out.trans (HBq.out.mono HB.out.size)) _) _)
              · have HT3 := Lib.hid (HT2.out (by rw [HLt.out, hy]))
                obtain ⟨xk, xv⟩ := x
                obtain ⟨yk, yv⟩ := y
                simp only at d0 d1 e0 e1 hy
                clear HT2 HLt HG0
                go_wp2_with fail
                go_quiet (fail)
                go_wp2
                go_roundw
                case rel => exact ⟨t + 1, by omega, by go_num, HT3, Lib.hid (below_drewN HBq.out _)⟩
                case measure => simp [intOf]; omega
            · obtain rfl : k = t := by omega
              have HNS : Hid (insStep l2 x = some (l2.take k ++ x :: l2.drop k)) := Lib.hid (step_some (spot_at (by have := HLN.out; omega) HTk.out (.inl HLN.out.symm)) (fun y hy => by rw [List.getElem?_eq_none (by have := HLN.out; omega)] at hy; cases hy))
              clear HTk HN5 HSt
              obtain ⟨xk, xv⟩ := x
              simp only at e0 e1
              rcases HA2.out with ⟨rfl, rfl⟩ | ⟨g, rfl⟩
              · obtain rfl : k = 0 := by omega
                obtain rfl : l2 = [] := List.eq_nil_of_length_eq_zero HLN.out
                simp only [Nat.zero_mul, Nat.add_zero] at e0 e1
                go_wp2_with fail
                go_quiet (fail)
                go_wp2_with fail
                go_quiet (fail)
                go_wp2_with fail
                refine at_world (C := fun V => Code.wp _ _ _ _ V) (P := fun V => Below wr.heap.size wr V) (below_drewN (below_drewN (Below.refl _ _) _) _) (fun W0 hW0 => ?_)
                have e0 := cell_later hW0 e0
                have e1 := cell_later hW0 e1
                have HLw := Lib.hid ((HLo.out.later HBq.out).later hW0)
                have HBW := Lib.hid (HB.out.trans ((HBq.out.trans (hW0.mono HBq.out.size)).mono HB.out.size))
                have ht : 0 ≤ 0 := Nat.le_refl _
                clear hW0 HLo HBq HB
                have HD : Hid (∀ V, Below W0.heap.size W0 V → (fun w' => w'.cell? ⟨b, o', none⟩ = some (strV xk) ∧ w'.cell? ⟨b, o' + 1, none⟩ = some (strV xv) ∧ Below W0.heap.size W0 w') V) := Lib.hid (fun V h => ⟨cell_later h e0, cell_later h e1, h⟩)
                refine wp_region_held_drew (S := (fun w' => w'.cell? ⟨b, o', none⟩ = some (strV xk) ∧ w'.cell? ⟨b, o' + 1, none⟩ = some (strV xv) ∧ Below W0.heap.size W0 w')) (by kernel_rfl) (HD.out _ (Below.refl _ _).drew) (fun hHeld => ?_)
                clear e0 e1
                refine wpAnyH_take (i := 1) (v := ?vv16) rfl (by kernel_rfl) (by kernel_rfl) (by kernel_rfl) (fun _ _ _ h => h) (Or.inl ⟨by rfl, ?hy16⟩) hHeld ?rr16
                case hy16 => (intro w' hSw; obtain ⟨g0, g1, g2⟩ := hSw; go_simp; try with_reducible rfl)
                try simp only [Act.put, List.setIfInBounds_toArray, List.set_cons_zero, List.set_cons_succ, List.getElem_toArray, List.getElem_cons_succ, List.getElem_cons_zero]
                refine wpAnyH_take (i := 2) (v := ?vv17) rfl (by kernel_rfl) (by kernel_rfl) (by kernel_rfl) (fun _ _ _ h => h) (Or.inl ⟨by rfl, ?hy17⟩) hHeld ?rr17
                case hy17 => (intro w' hSw; obtain ⟨g0, g1, g2⟩ := hSw; go_simp; try with_reducible rfl)
                try simp only [Act.put, List.setIfInBounds_toArray, List.set_cons_zero, List.set_cons_succ, List.getElem_toArray, List.getElem_cons_succ, List.getElem_cons_zero]
                refine wpAnyH_take (i := 3) (v := ?vv18) rfl (by kernel_rfl) (by kernel_rfl) (by kernel_rfl) (fun _ _ _ h => h) (Or.inl ⟨by rfl, ?hy18⟩) hHeld ?rr18
                case hy18 => (intro w' hSw; obtain ⟨g0, g1, g2⟩ := hSw; go_simp; try with_reducible rfl)
                try simp only [Act.put, List.setIfInBounds_toArray, List.set_cons_zero, List.set_cons_succ, List.getElem_toArray, List.getElem_cons_succ, List.getElem_cons_zero]
                refine wpAnyH_take (i := 5) (v := ?vv19) rfl (by kernel_rfl) (by kernel_rfl) (by kernel_rfl) (fun _ _ _ h => h) (Or.inl ⟨by rfl, ?hy19⟩) hHeld ?rr19
                case hy19 => (intro w' hSw; obtain ⟨g0, g1, g2⟩ := hSw; go_simp; try with_reducible rfl)
                try simp only [Act.put, List.setIfInBounds_toArray, List.set_cons_zero, List.set_cons_succ, List.getElem_toArray, List.getElem_cons_succ, List.getElem_cons_zero]
                refine wpAnyH_take (i := 6) (v := ?vv20) rfl (by kernel_rfl) (by kernel_rfl) (by kernel_rfl) (fun _ _ _ h => h) (Or.inl ⟨by rfl, ?hy20⟩) hHeld ?rr20
                case hy20 => (intro w' hSw; obtain ⟨g0, g1, g2⟩ := hSw; go_simp; try with_reducible rfl)
                try simp only [Act.put, List.setIfInBounds_toArray, List.set_cons_zero, List.set_cons_succ, List.getElem_toArray, List.getElem_cons_succ, List.getElem_cons_zero]
                refine wpAnyH_take (i := 7) (v := ?vv21) rfl (by kernel_rfl) (by kernel_rfl) (by kernel_rfl) (fun _ _ _ h => h) (Or.inl ⟨by rfl, ?hy21⟩) hHeld ?rr21
                case hy21 => (intro w' hSw; obtain ⟨g0, g1, g2⟩ := hSw; go_simp; try with_reducible rfl)
                try simp only [Act.put, List.setIfInBounds_toArray, List.set_cons_zero, List.set_cons_succ, List.getElem_toArray, List.getElem_cons_succ, List.getElem_cons_zero]
                refine wpAnyH_take (i := 8) (v := ?vv22) rfl (by kernel_rfl) (by kernel_rfl) (by kernel_rfl) (fun _ _ _ h => h) (Or.inl ⟨by rfl, ?hy22⟩) hHeld ?rr22
                case hy22 => (intro w' hSw; obtain ⟨g0, g1, g2⟩ := hSw; go_simp; try with_reducible rfl)
                try simp only [Act.put, List.setIfInBounds_toArray, List.set_cons_zero, List.set_cons_succ, List.getElem_toArray, List.getElem_cons_succ, List.getElem_cons_zero]
                refine wpAnyH_take (i := 11) (v := ?vv23) rfl (by kernel_rfl) (by kernel_rfl) (by kernel_rfl) (fun _ _ _ h => h) (Or.inl ⟨by rfl, ?hy23⟩) hHeld ?rr23
                case hy23 => (intro w' hSw; obtain ⟨g0, g1, g2⟩ := hSw; go_simp; try with_reducible rfl)
                try simp only [Act.put, List.setIfInBounds_toArray, List.set_cons_zero, List.set_cons_succ, List.getElem_toArray, List.getElem_cons_succ, List.getElem_cons_zero]
                refine wpAnyH_take (i := 12) (v := ?vv24) rfl (by kernel_rfl) (by kernel_rfl) (by kernel_rfl) (fun _ _ _ h => h) (Or.inl ⟨by rfl, ?hy24⟩) hHeld ?rr24
                case hy24 => (intro w' hSw; obtain ⟨g0, g1, g2⟩ := hSw; go_simp; try with_reducible rfl)
                try simp only [Act.put, List.setIfInBounds_toArray, List.set_cons_zero, List.set_cons_succ, List.getElem_toArray, List.getElem_cons_succ, List.getElem_cons_zero]
                refine wpAnyH_take (i := 13) (v := ?vv25) rfl (by kernel_rfl) (by kernel_rfl) (by kernel_rfl) (fun _ _ _ h => h) (Or.inl ⟨by rfl, ?hy25⟩) hHeld ?rr25
                case hy25 => (intro w' hSw; obtain ⟨g0, g1, g2⟩ := hSw; go_simp; try with_reducible rfl)
                try simp only [Act.put, List.setIfInBounds_toArray, List.set_cons_zero, List.set_cons_succ, List.getElem_toArray, List.getElem_cons_succ, List.getElem_cons_zero]
                refine wpAnyH_ready (rs := [0, 9]) (by kernel_rfl) (by simp) ?_
                refine AllReadyH.cons rfl (fun K hK => ?x26a) (AllReadyH.cons rfl (fun K hK => ?x26b) AllReadyH.nil)
                case x26a =>
                  rw [if_pos (by rfl)]
                  go_simp
                  have hB0 : Below W0.heap.size W0 ((W0.alloc (.cells #[] 46)).drew) := (below_alloc _ _).drew
                  have hsz0 : W0.heap.size < ((W0.alloc (.cells #[] 46)).drew).heap.size := by show W0.heap.size < (W0.alloc _).heap.size; simp
                  have hO0 : ((W0.alloc (.cells #[] 46)).drew).ownsRow (W0.heap.size) 46 2 (.slice (some ⟨W0.heap.size, 0, none⟩) 0 0) 0 [] := own_drew (World.ownsRow_made W0 #[] 0 (Nat.le_refl _) (Nat.zero_le _) rfl)
                  have hs0 : W0.heap.size ≤ ((W0.alloc (.cells #[] 46)).drew).heap.size := Nat.le_of_lt hsz0
                  have hR0 : W0.heap.size ≤ W0.heap.size := Nat.le_refl _
                  generalize (W0.alloc (.cells #[] 46)).drew = V0 at *
                  refine hK.out _ _ (HD.out _ hB0) (fun hHeld2 => ?_)
                  clear hK K hHeld
                  have hHeld := hHeld2
                  clear hHeld2
                  try simp only [Act.put, List.setIfInBounds_toArray, List.set_cons_zero, List.set_cons_succ, List.getElem_toArray, List.getElem_cons_succ, List.getElem_cons_zero]
                  refine wpAnyH_ready (rs := [4, 9]) (by kernel_rfl) (by simp) ?_
                  refine AllReadyH.cons rfl (fun K hK => ?x27a) (AllReadyH.cons rfl (fun K hK => ?x27b) AllReadyH.nil)
                  case x27a =>
                    rw [if_pos (by rfl)]
                    refine oper_append_k _ (.tmp 72) (.tmp 75) 22 rfl 46 i0 (.agg #[.string ⟨#[]⟩, .string ⟨#[]⟩]) 2 32 Tryz.underlying22 hinfo hz0 hz1 hz2 rfl (by decide) (W0.heap.size) _ 0 [] rfl hO0 none 0 0 ((([] : List Lb).take 0).flatMap encL) rfl (by rw [labF_len, List.length_take, HLN.out, Nat.min_eq_left ht]) (labF_src (labs_take (HLw.out.later hB0) 0) (by rw [List.length_take, HLN.out, Nat.min_eq_left ht])) (labF_one _) (by unfold maxLen; omega) (by omega) hs0 ?_
                    intro A1 c1 V1 hO1 hgrow1 _
                    rw [Nat.zero_add, List.nil_append] at hO1
                    rw [Nat.zero_add]
                    have hB1 : Below W0.heap.size W0 V1 := hB0.grown hgrow1 hB0.size (fun j e => Nat.le_trans hR0 (hO0.lt j e).1)
                    have hs1 : (W0.heap.size) ≤ V1.heap.size := Nat.le_trans hs0 hgrow1.size
                    refine hK.out _ _ (HD.out _ hB1) (fun hHeld2 => ?_)
                    clear hK K hHeld
                    have hHeld := hHeld2
                    clear hHeld2
                    try simp only [Act.put, List.setIfInBounds_toArray, List.set_cons_zero, List.set_cons_succ, List.getElem_toArray, List.getElem_cons_succ, List.getElem_cons_zero]
                    refine wpAnyH_ready (rs := [9]) (by kernel_rfl) (by simp) ?_
                    refine AllReadyH.cons rfl (fun K hK => ?_) AllReadyH.nil
                    rw [if_pos (by rfl)]
                    go_simp
                    have hB2 : Below W0.heap.size W0 (V1.alloc (.cells #[strV xk, strV xv] 46)) := hB1.alloc hB1.size _
                    have hsz2 : V1.heap.size < (V1.alloc (.cells #[strV xk, strV xv] 46)).heap.size := by simp
                    have hO2 := hO1.alloc (.cells #[strV xk, strV xv] 46)
                    have hs2 : (W0.heap.size) ≤ (V1.alloc (.cells #[strV xk, strV xv] 46)).heap.size := Nat.le_trans hs1 (by simp)
                    have hX2 : (V1.alloc (.cells #[strV xk, strV xv] 46)).heap[V1.heap.size]? = some (.cells #[strV xk, strV xv] 46 (0, 0)) := heap_new V1 _
                    generalize V1.alloc (.cells #[strV xk, strV xv] 46) = V2 at *
                    refine hK.out _ _ (HD.out _ hB2) (fun hHeld2 => ?_)
                    clear hK K hHeld
                    have hHeld := hHeld2
                    clear hHeld2
                    try simp only [Act.put, List.setIfInBounds_toArray, List.set_cons_zero, List.set_cons_succ, List.getElem_toArray, List.getElem_cons_succ, List.getElem_cons_zero]
                    refine wpAnyH_ready (rs := [10]) (by kernel_rfl) (by simp) ?_
                    refine AllReadyH.cons rfl (fun K hK => ?_) AllReadyH.nil
                    rw [if_pos (by rfl)]
                    refine oper_append_k _ (.tmp 76) (.tmp 81) 22 rfl 46 i0 (.agg #[.string ⟨#[]⟩, .string ⟨#[]⟩]) 2 32 Tryz.underlying22 hinfo hz0 hz1 hz2 rfl (by decide) (W0.heap.size) _ 0 ((([] : List Lb).take 0).flatMap encL) rfl hO2 (some ⟨V1.heap.size, 0, none⟩) 1 1 [strV xk, strV xv] rfl rfl (fun _ => ⟨_, rfl, one_src hX2⟩) (one_one xk xv) (by unfold maxLen; omega) (by omega) hs2 ?_
                    intro A3 c3 V3 hO3 hgrow3 _
                    have hB3 : Below W0.heap.size W0 V3 := hB2.grown hgrow3 hB2.size (fun j e => Nat.le_trans hR0 (hO2.lt j e).1)
                    have hs3 : (W0.heap.size) ≤ V3.heap.size := Nat.le_trans hs2 hgrow3.size
                    refine hK.out _ _ (HD.out _ hB3) (fun hHeld2 => ?_)
                    clear hK K hHeld
                    have hHeld := hHeld2
                    clear hHeld2
                    try simp only [Act.put, List.setIfInBounds_toArray, List.set_cons_zero, List.set_cons_succ, List.getElem_toArray, List.getElem_cons_succ, List.getElem_cons_zero]
                    refine wpAnyH_ready (rs := [14]) (by kernel_rfl) (by simp) ?_
                    refine AllReadyH.cons rfl (fun K hK => ?_) AllReadyH.nil
                    rw [if_pos (by rfl)]
                    refine oper_append_k _ (.tmp 82) (.tmp 85) 22 rfl 46 i0 (.agg #[.string ⟨#[]⟩, .string ⟨#[]⟩]) 2 32 Tryz.underlying22 hinfo hz0 hz1 hz2 rfl (by decide) (W0.heap.size) _ (0 + 1) (((([] : List Lb).take 0).flatMap encL) ++ [strV xk, strV xv]) rfl hO3 none 0 0 ((([] : List Lb).drop 0).flatMap encL) rfl (by rw [labF_len, List.length_drop, HLN.out, Nat.sub_self]) (fun h => absurd h (Nat.lt_irrefl _)) (labF_one _) (by unfold maxLen; omega) (by omega) hs3 ?_
                    intro A4 c4 V4 hO4 hgrow4 _
                    have hB4 : Below W0.heap.size W0 V4 := hB3.grown hgrow4 hB3.size (fun j e => Nat.le_trans hR0 (hO3.lt j e).1)
                    have hs4 : (W0.heap.size) ≤ V4.heap.size := Nat.le_trans hs3 hgrow4.size
                    refine hK.out _ _ (HD.out _ hB4) (fun hHeld2 => ?_)
                    clear hK K hHeld
                    have hHeld := hHeld2
                    clear hHeld2
                    try simp only [Act.put, List.setIfInBounds_toArray, List.set_cons_zero, List.set_cons_succ, List.getElem_toArray, List.getElem_cons_succ, List.getElem_cons_zero]
                    refine wpAnyH_take (i := 15) (v := ?vv28) rfl (by kernel_rfl) (by kernel_rfl) (by kernel_rfl) (fun _ _ _ h => h) (Or.inl ⟨by rfl, ?hy28⟩) hHeld ?rr28
                    case hy28 => (intro w' hSw; obtain ⟨g0, g1, g2⟩ := hSw; go_simp; try with_reducible rfl)
                    try simp only [Act.put, List.setIfInBounds_toArray, List.set_cons_zero, List.set_cons_succ, List.getElem_toArray, List.getElem_cons_succ, List.getElem_cons_zero]
                    refine wpAnyH_done (by kernel_rfl) ?_ _
                    clear hHeld HD
                    rw [show 0 + 1 + 0 = 0 + 1 by omega] at hO4 ⊢
                    have HO := Lib.hid (row_next hO4)
                    have HBn := Lib.hid (HBW.out.trans (hB4.mono HBW.out.size))
                    have HEnd := Lib.hid (own_end hO4)
                    have HK := Lib.hid (lens_next (labs_len HLw.out) HX.out 0)
                    clear hB0 hB1 hB2 hB3 hB4 hO4
                    go_wp2
                    go_roundw
                    case rel => exact ⟨0 + 1, ([] : List Lb).take 0 ++ ⟨xk, xv⟩ :: ([] : List Lb).drop 0, A4, c4, by omega, by go_num, rfl, Lib.hid (by have := HLN.out; first | (simp; done) | (simp; omega)), HEnd.out.1, Lib.hid (by rw [HNx.out, HNS.out]), Lib.hid (labF_own HO.out (by have := HLN.out; first | (simp; done) | (simp; omega)) HK.out), Lib.hid HEnd.out.2, HBn⟩
                    case measure => simp [intOf]; omega
                  case x27b =>
                    rw [if_pos (by rfl)]
                    go_simp
                    have hB1 : Below W0.heap.size W0 (V0.alloc (.cells #[strV xk, strV xv] 46)) := hB0.alloc hB0.size _
                    have hsz1 : V0.heap.size < (V0.alloc (.cells #[strV xk, strV xv] 46)).heap.size := by simp
                    have hO1 := hO0.alloc (.cells #[strV xk, strV xv] 46)
                    have hs1 : (W0.heap.size) ≤ (V0.alloc (.cells #[strV xk, strV xv] 46)).heap.size := Nat.le_trans hs0 (by simp)
                    have hX1 : (V0.alloc (.cells #[strV xk, strV xv] 46)).heap[V0.heap.size]? = some (.cells #[strV xk, strV xv] 46 (0, 0)) := heap_new V0 _
                    generalize V0.alloc (.cells #[strV xk, strV xv] 46) = V1 at *
                    refine hK.out _ _ (HD.out _ hB1) (fun hHeld2 => ?_)
                    clear hK K hHeld
                    have hHeld := hHeld2
                    clear hHeld2
                    try simp only [Act.put, List.setIfInBounds_toArray, List.set_cons_zero, List.set_cons_succ, List.getElem_toArray, List.getElem_cons_succ, List.getElem_cons_zero]
                    refine wpAnyH_ready (rs := [4]) (by kernel_rfl) (by simp) ?_
                    refine AllReadyH.cons rfl (fun K hK => ?_) AllReadyH.nil
                    rw [if_pos (by rfl)]
                    refine oper_append_k _ (.tmp 72) (.tmp 75) 22 rfl 46 i0 (.agg #[.string ⟨#[]⟩, .string ⟨#[]⟩]) 2 32 Tryz.underlying22 hinfo hz0 hz1 hz2 rfl (by decide) (W0.heap.size) _ 0 [] rfl hO1 none 0 0 ((([] : List Lb).take 0).flatMap encL) rfl (by rw [labF_len, List.length_take, HLN.out, Nat.min_eq_left ht]) (labF_src (labs_take (HLw.out.later hB1) 0) (by rw [List.length_take, HLN.out, Nat.min_eq_left ht])) (labF_one _) (by unfold maxLen; omega) (by omega) hs1 ?_
                    intro A2 c2 V2 hO2 hgrow2 _
                    rw [Nat.zero_add, List.nil_append] at hO2
                    rw [Nat.zero_add]
                    have hB2 : Below W0.heap.size W0 V2 := hB1.grown hgrow2 hB1.size (fun j e => Nat.le_trans hR0 (hO1.lt j e).1)
                    have hs2 : (W0.heap.size) ≤ V2.heap.size := Nat.le_trans hs1 hgrow2.size
                    have hX2 : V2.heap[V0.heap.size]? = some (.cells #[strV xk, strV xv] 46 (0, 0)) := (hgrow2.block _ (heap_lt hX1) (fun e => by have e : some (V0.heap.size) = some (W0.heap.size) := e; injection e with e; omega)).trans hX1
                    refine hK.out _ _ (HD.out _ hB2) (fun hHeld2 => ?_)
                    clear hK K hHeld
                    have hHeld := hHeld2
                    clear hHeld2
                    try simp only [Act.put, List.setIfInBounds_toArray, List.set_cons_zero, List.set_cons_succ, List.getElem_toArray, List.getElem_cons_succ, List.getElem_cons_zero]
                    refine wpAnyH_ready (rs := [10]) (by kernel_rfl) (by simp) ?_
                    refine AllReadyH.cons rfl (fun K hK => ?_) AllReadyH.nil
                    rw [if_pos (by rfl)]
                    refine oper_append_k _ (.tmp 76) (.tmp 81) 22 rfl 46 i0 (.agg #[.string ⟨#[]⟩, .string ⟨#[]⟩]) 2 32 Tryz.underlying22 hinfo hz0 hz1 hz2 rfl (by decide) (W0.heap.size) _ 0 ((([] : List Lb).take 0).flatMap encL) rfl hO2 (some ⟨V0.heap.size, 0, none⟩) 1 1 [strV xk, strV xv] rfl rfl (fun _ => ⟨_, rfl, one_src hX2⟩) (one_one xk xv) (by unfold maxLen; omega) (by omega) hs2 ?_
                    intro A3 c3 V3 hO3 hgrow3 _
                    have hB3 : Below W0.heap.size W0 V3 := hB2.grown hgrow3 hB2.size (fun j e => Nat.le_trans hR0 (hO2.lt j e).1)
                    have hs3 : (W0.heap.size) ≤ V3.heap.size := Nat.le_trans hs2 hgrow3.size
                    refine hK.out _ _ (HD.out _ hB3) (fun hHeld2 => ?_)
                    clear hK K hHeld
                    have hHeld := hHeld2
                    clear hHeld2
                    try simp only [Act.put, List.setIfInBounds_toArray, List.set_cons_zero, List.set_cons_succ, List.getElem_toArray, List.getElem_cons_succ, List.getElem_cons_zero]
                    refine wpAnyH_ready (rs := [14]) (by kernel_rfl) (by simp) ?_
                    refine AllReadyH.cons rfl (fun K hK => ?_) AllReadyH.nil
                    rw [if_pos (by rfl)]
                    refine oper_append_k _ (.tmp 82) (.tmp 85) 22 rfl 46 i0 (.agg #[.string ⟨#[]⟩, .string ⟨#[]⟩]) 2 32 Tryz.underlying22 hinfo hz0 hz1 hz2 rfl (by decide) (W0.heap.size) _ (0 + 1) (((([] : List Lb).take 0).flatMap encL) ++ [strV xk, strV xv]) rfl hO3 none 0 0 ((([] : List Lb).drop 0).flatMap encL) rfl (by rw [labF_len, List.length_drop, HLN.out, Nat.sub_self]) (fun h => absurd h (Nat.lt_irrefl _)) (labF_one _) (by unfold maxLen; omega) (by omega) hs3 ?_
                    intro A4 c4 V4 hO4 hgrow4 _
                    have hB4 : Below W0.heap.size W0 V4 := hB3.grown hgrow4 hB3.size (fun j e => Nat.le_trans hR0 (hO3.lt j e).1)
                    have hs4 : (W0.heap.size) ≤ V4.heap.size := Nat.le_trans hs3 hgrow4.size
                    refine hK.out _ _ (HD.out _ hB4) (fun hHeld2 => ?_)
                    clear hK K hHeld
                    have hHeld := hHeld2
                    clear hHeld2
                    try simp only [Act.put, List.setIfInBounds_toArray, List.set_cons_zero, List.set_cons_succ, List.getElem_toArray, List.getElem_cons_succ, List.getElem_cons_zero]
                    refine wpAnyH_take (i := 15) (v := ?vv29) rfl (by kernel_rfl) (by kernel_rfl) (by kernel_rfl) (fun _ _ _ h => h) (Or.inl ⟨by rfl, ?hy29⟩) hHeld ?rr29
                    case hy29 => (intro w' hSw; obtain ⟨g0, g1, g2⟩ := hSw; go_simp; try with_reducible rfl)
                    try simp only [Act.put, List.setIfInBounds_toArray, List.set_cons_zero, List.set_cons_succ, List.getElem_toArray, List.getElem_cons_succ, List.getElem_cons_zero]
                    refine wpAnyH_done (by kernel_rfl) ?_ _
                    clear hHeld HD
                    rw [show 0 + 1 + 0 = 0 + 1 by omega] at hO4 ⊢
                    have HO := Lib.hid (row_next hO4)
                    have HBn := Lib.hid (HBW.out.trans (hB4.mono HBW.out.size))
                    have HEnd := Lib.hid (own_end hO4)
                    have HK := Lib.hid (lens_next (labs_len HLw.out) HX.out 0)
                    clear hB0 hB1 hB2 hB3 hB4 hO4
                    go_wp2
                    go_roundw
                    case rel => exact ⟨0 + 1, ([] : List Lb).take 0 ++ ⟨xk, xv⟩ :: ([] : List Lb).drop 0, A4, c4, by omega, by go_num, rfl, Lib.hid (by have := HLN.out; first | (simp; done) | (simp; omega)), HEnd.out.1, Lib.hid (by rw [HNx.out, HNS.out]), Lib.hid (labF_own HO.out (by have := HLN.out; first | (simp; done) | (simp; omega)) HK.out), Lib.hid HEnd.out.2, HBn⟩
                    case measure => simp [intOf]; omega
                case x26b =>
                  rw [if_pos (by rfl)]
                  go_simp
                  have hB0 : Below W0.heap.size W0 ((W0.alloc (.cells #[strV xk, strV xv] 46)).drew) := (below_alloc _ _).drew
                  have hsz0 : W0.heap.size < ((W0.alloc (.cells #[strV xk, strV xv] 46)).drew).heap.size := by show W0.heap.size < (W0.alloc _).heap.size; simp
                  have hX0 : ((W0.alloc (.cells #[strV xk, strV xv] 46)).drew).heap[W0.heap.size]? = some (.cells #[strV xk, strV xv] 46 (0, 0)) := heap_new W0 _
                  generalize (W0.alloc (.cells #[strV xk, strV xv] 46)).drew = V0 at *
                  refine hK.out _ _ (HD.out _ hB0) (fun hHeld2 => ?_)
                  clear hK K hHeld
                  have hHeld := hHeld2
                  clear hHeld2
                  try simp only [Act.put, List.setIfInBounds_toArray, List.set_cons_zero, List.set_cons_succ, List.getElem_toArray, List.getElem_cons_succ, List.getElem_cons_zero]
                  refine wpAnyH_ready (rs := [0]) (by kernel_rfl) (by simp) ?_
                  refine AllReadyH.cons rfl (fun K hK => ?_) AllReadyH.nil
                  rw [if_pos (by rfl)]
                  go_simp
                  have hB1 : Below W0.heap.size W0 (V0.alloc (.cells #[] 46)) := hB0.alloc hB0.size _
                  have hsz1 : V0.heap.size < (V0.alloc (.cells #[] 46)).heap.size := by simp
                  have hX1 : (V0.alloc (.cells #[] 46)).heap[W0.heap.size]? = some (.cells #[strV xk, strV xv] 46 (0, 0)) := heap_old (.cells #[] 46) (heap_lt hX0) hX0
                  have hO1 : (V0.alloc (.cells #[] 46)).ownsRow (V0.heap.size) 46 2 (.slice (some ⟨V0.heap.size, 0, none⟩) 0 0) 0 [] := World.ownsRow_made V0 #[] 0 (Nat.le_refl _) (Nat.zero_le _) rfl
                  have hs1 : V0.heap.size ≤ (V0.alloc (.cells #[] 46)).heap.size := Nat.le_of_lt hsz1
                  have hR1 : W0.heap.size ≤ V0.heap.size := hB0.size
                  generalize V0.alloc (.cells #[] 46) = V1 at *
                  refine hK.out _ _ (HD.out _ hB1) (fun hHeld2 => ?_)
                  clear hK K hHeld
                  have hHeld := hHeld2
                  clear hHeld2
                  try simp only [Act.put, List.setIfInBounds_toArray, List.set_cons_zero, List.set_cons_succ, List.getElem_toArray, List.getElem_cons_succ, List.getElem_cons_zero]
                  refine wpAnyH_ready (rs := [4]) (by kernel_rfl) (by simp) ?_
                  refine AllReadyH.cons rfl (fun K hK => ?_) AllReadyH.nil
                  rw [if_pos (by rfl)]
                  refine oper_append_k _ (.tmp 72) (.tmp 75) 22 rfl 46 i0 (.agg #[.string ⟨#[]⟩, .string ⟨#[]⟩]) 2 32 Tryz.underlying22 hinfo hz0 hz1 hz2 rfl (by decide) (V0.heap.size) _ 0 [] rfl hO1 none 0 0 ((([] : List Lb).take 0).flatMap encL) rfl (by rw [labF_len, List.length_take, HLN.out, Nat.min_eq_left ht]) (labF_src (labs_take (HLw.out.later hB1) 0) (by rw [List.length_take, HLN.out, Nat.min_eq_left ht])) (labF_one _) (by unfold maxLen; omega) (by omega) hs1 ?_
                  intro A2 c2 V2 hO2 hgrow2 _
                  rw [Nat.zero_add, List.nil_append] at hO2
                  rw [Nat.zero_add]
                  have hB2 : Below W0.heap.size W0 V2 := hB1.grown hgrow2 hB1.size (fun j e => Nat.le_trans hR1 (hO1.lt j e).1)
                  have hs2 : (V0.heap.size) ≤ V2.heap.size := Nat.le_trans hs1 hgrow2.size
                  have hX2 : V2.heap[W0.heap.size]? = some (.cells #[strV xk, strV xv] 46 (0, 0)) := (hgrow2.block _ (heap_lt hX1) (fun e => by have e : some (W0.heap.size) = some (V0.heap.size) := e; injection e with e; omega)).trans hX1
                  refine hK.out _ _ (HD.out _ hB2) (fun hHeld2 => ?_)
                  clear hK K hHeld
                  have hHeld := hHeld2
                  clear hHeld2
                  try simp only [Act.put, List.setIfInBounds_toArray, List.set_cons_zero, List.set_cons_succ, List.getElem_toArray, List.getElem_cons_succ, List.getElem_cons_zero]
                  refine wpAnyH_ready (rs := [10]) (by kernel_rfl) (by simp) ?_
                  refine AllReadyH.cons rfl (fun K hK => ?_) AllReadyH.nil
                  rw [if_pos (by rfl)]
                  refine oper_append_k _ (.tmp 76) (.tmp 81) 22 rfl 46 i0 (.agg #[.string ⟨#[]⟩, .string ⟨#[]⟩]) 2 32 Tryz.underlying22 hinfo hz0 hz1 hz2 rfl (by decide) (V0.heap.size) _ 0 ((([] : List Lb).take 0).flatMap encL) rfl hO2 (some ⟨W0.heap.size, 0, none⟩) 1 1 [strV xk, strV xv] rfl rfl (fun _ => ⟨_, rfl, one_src hX2⟩) (one_one xk xv) (by unfold maxLen; omega) (by omega) hs2 ?_
                  intro A3 c3 V3 hO3 hgrow3 _
                  have hB3 : Below W0.heap.size W0 V3 := hB2.grown hgrow3 hB2.size (fun j e => Nat.le_trans hR1 (hO2.lt j e).1)
                  have hs3 : (V0.heap.size) ≤ V3.heap.size := Nat.le_trans hs2 hgrow3.size
                  refine hK.out _ _ (HD.out _ hB3) (fun hHeld2 => ?_)
                  clear hK K hHeld
                  have hHeld := hHeld2
                  clear hHeld2
                  try simp only [Act.put, List.setIfInBounds_toArray, List.set_cons_zero, List.set_cons_succ, List.getElem_toArray, List.getElem_cons_succ, List.getElem_cons_zero]
                  refine wpAnyH_ready (rs := [14]) (by kernel_rfl) (by simp) ?_
                  refine AllReadyH.cons rfl (fun K hK => ?_) AllReadyH.nil
                  rw [if_pos (by rfl)]
                  refine oper_append_k _ (.tmp 82) (.tmp 85) 22 rfl 46 i0 (.agg #[.string ⟨#[]⟩, .string ⟨#[]⟩]) 2 32 Tryz.underlying22 hinfo hz0 hz1 hz2 rfl (by decide) (V0.heap.size) _ (0 + 1) (((([] : List Lb).take 0).flatMap encL) ++ [strV xk, strV xv]) rfl hO3 none 0 0 ((([] : List Lb).drop 0).flatMap encL) rfl (by rw [labF_len, List.length_drop, HLN.out, Nat.sub_self]) (fun h => absurd h (Nat.lt_irrefl _)) (labF_one _) (by unfold maxLen; omega) (by omega) hs3 ?_
                  intro A4 c4 V4 hO4 hgrow4 _
                  have hB4 : Below W0.heap.size W0 V4 := hB3.grown hgrow4 hB3.size (fun j e => Nat.le_trans hR1 (hO3.lt j e).1)
                  have hs4 : (V0.heap.size) ≤ V4.heap.size := Nat.le_trans hs3 hgrow4.size
                  refine hK.out _ _ (HD.out _ hB4) (fun hHeld2 => ?_)
                  clear hK K hHeld
                  have hHeld := hHeld2
                  clear hHeld2
                  try simp only [Act.put, List.setIfInBounds_toArray, List.set_cons_zero, List.set_cons_succ, List.getElem_toArray, List.getElem_cons_succ, List.getElem_cons_zero]
                  refine wpAnyH_take (i := 15) (v := ?vv30) rfl (by kernel_rfl) (by kernel_rfl) (by kernel_rfl) (fun _ _ _ h => h) (Or.inl ⟨by rfl, ?hy30⟩) hHeld ?rr30
                  case hy30 => (intro w' hSw; obtain ⟨g0, g1, g2⟩ := hSw; go_simp; try with_reducible rfl)
                  try simp only [Act.put, List.setIfInBounds_toArray, List.set_cons_zero, List.set_cons_succ, List.getElem_toArray, List.getElem_cons_succ, List.getElem_cons_zero]
                  refine wpAnyH_done (by kernel_rfl) ?_ _
                  clear hHeld HD
                  rw [show 0 + 1 + 0 = 0 + 1 by omega] at hO4 ⊢
                  have HO := Lib.hid (row_next hO4)
                  have HBn := Lib.hid (HBW.out.trans (hB4.mono HBW.out.size))
                  have HEnd := Lib.hid (own_end hO4)
                  have HK := Lib.hid (lens_next (labs_len HLw.out) HX.out 0)
                  clear hB0 hB1 hB2 hB3 hB4 hO4
                  go_wp2
                  go_roundw
                  case rel => exact ⟨0 + 1, ([] : List Lb).take 0 ++ ⟨xk, xv⟩ :: ([] : List Lb).drop 0, A4, c4, by omega, by go_num, rfl, Lib.hid (by have := HLN.out; first | (simp; done) | (simp; omega)), HEnd.out.1, Lib.hid (by rw [HNx.out, HNS.out]), Lib.hid (labF_own HO.out (by have := HLN.out; first | (simp; done) | (simp; omega)) HK.out), Lib.hid HEnd.out.2, HBn⟩
                  case measure => simp [intOf]; omega
              · go_wp2_with fail
                go_quiet (fail)
                go_wp2_with fail
                go_quiet (fail)
                go_wp2_with fail
                refine at_world (C := fun V => Code.wp _ _ _ _ V) (P := fun V => Below wr.heap.size wr V) (below_drewN (below_drewN (Below.refl _ _) _) _) (fun W0 hW0 => ?_)
                have e0 := cell_later hW0 e0
                have e1 := cell_later hW0 e1
                have HLw := Lib.hid ((HLo.out.later HBq.out).later hW0)
                have HBW := Lib.hid (HB.out.trans ((HBq.out.trans (hW0.mono HBq.out.size)).mono HB.out.size))
                have ht : k ≤ k := Nat.le_refl _
                clear hW0 HLo HBq HB
                have hkc : (k : Int) ≤ (cap : Int) := by omega
                have HD : Hid (∀ V, Below W0.heap.size W0 V → (fun w' => w'.cell? ⟨b, o' + k * 2, none⟩ = some (strV xk) ∧ w'.cell? ⟨b, o' + k * 2 + 1, none⟩ = some (strV xv) ∧ Below W0.heap.size W0 w') V) := Lib.hid (fun V h => ⟨cell_later h e0, cell_later h e1, h⟩)
                refine wp_region_held_drew (S := (fun w' => w'.cell? ⟨b, o' + k * 2, none⟩ = some (strV xk) ∧ w'.cell? ⟨b, o' + k * 2 + 1, none⟩ = some (strV xv) ∧ Below W0.heap.size W0 w')) (by kernel_rfl) (HD.out _ (Below.refl _ _).drew) (fun hHeld => ?_)
                clear e0 e1
                refine wpAnyH_take (i := 1) (v := ?vv31) rfl (by kernel_rfl) (by kernel_rfl) (by kernel_rfl) (fun _ _ _ h => h) (Or.inl ⟨by rfl, ?hy31⟩) hHeld ?rr31
                case hy31 => (intro w' hSw; obtain ⟨g0, g1, g2⟩ := hSw; go_simp; try with_reducible rfl)
                try simp only [Act.put, List.setIfInBounds_toArray, List.set_cons_zero, List.set_cons_succ, List.getElem_toArray, List.getElem_cons_succ, List.getElem_cons_zero]
                refine wpAnyH_take (i := 2) (v := ?vv32) rfl (by kernel_rfl) (by kernel_rfl) (by kernel_rfl) (fun _ _ _ h => h) (Or.inl ⟨by rfl, ?hy32⟩) hHeld ?rr32
                case hy32 => (intro w' hSw; obtain ⟨g0, g1, g2⟩ := hSw; go_simp; try with_reducible rfl)
                try simp only [Act.put, List.setIfInBounds_toArray, List.set_cons_zero, List.set_cons_succ, List.getElem_toArray, List.getElem_cons_succ, List.getElem_cons_zero]
                refine wpAnyH_take (i := 3) (v := ?vv33) rfl (by kernel_rfl) (by kernel_rfl) (by kernel_rfl) (fun _ _ _ h => h) (Or.inl ⟨by rfl, ?hy33⟩) hHeld ?rr33
                case hy33 => (intro w' hSw; obtain ⟨g0, g1, g2⟩ := hSw; go_simp; try with_reducible rfl)
                try simp only [Act.put, List.setIfInBounds_toArray, List.set_cons_zero, List.set_cons_succ, List.getElem_toArray, List.getElem_cons_succ, List.getElem_cons_zero]
                refine wpAnyH_take (i := 5) (v := ?vv34) rfl (by kernel_rfl) (by kernel_rfl) (by kernel_rfl) (fun _ _ _ h => h) (Or.inl ⟨by rfl, ?hy34⟩) hHeld ?rr34
                case hy34 => (intro w' hSw; obtain ⟨g0, g1, g2⟩ := hSw; go_simp; try with_reducible rfl)
                try simp only [Act.put, List.setIfInBounds_toArray, List.set_cons_zero, List.set_cons_succ, List.getElem_toArray, List.getElem_cons_succ, List.getElem_cons_zero]
                refine wpAnyH_take (i := 6) (v := ?vv35) rfl (by kernel_rfl) (by kernel_rfl) (by kernel_rfl) (fun _ _ _ h => h) (Or.inl ⟨by rfl, ?hy35⟩) hHeld ?rr35
                case hy35 => (intro w' hSw; obtain ⟨g0, g1, g2⟩ := hSw; go_simp; try with_reducible rfl)
                try simp only [Act.put, List.setIfInBounds_toArray, List.set_cons_zero, List.set_cons_succ, List.getElem_toArray, List.getElem_cons_succ, List.getElem_cons_zero]
                refine wpAnyH_take (i := 7) (v := ?vv36) rfl (by kernel_rfl) (by kernel_rfl) (by kernel_rfl) (fun _ _ _ h => h) (Or.inl ⟨by rfl, ?hy36⟩) hHeld ?rr36
                case hy36 => (intro w' hSw; obtain ⟨g0, g1, g2⟩ := hSw; go_simp; try with_reducible rfl)
                try simp only [Act.put, List.setIfInBounds_toArray, List.set_cons_zero, List.set_cons_succ, List.getElem_toArray, List.getElem_cons_succ, List.getElem_cons_zero]
                refine wpAnyH_take (i := 8) (v := ?vv37) rfl (by kernel_rfl) (by kernel_rfl) (by kernel_rfl) (fun _ _ _ h => h) (Or.inl ⟨by rfl, ?hy37⟩) hHeld ?rr37
                case hy37 => (intro w' hSw; obtain ⟨g0, g1, g2⟩ := hSw; go_simp; try with_reducible rfl)
                try simp only [Act.put, List.setIfInBounds_toArray, List.set_cons_zero, List.set_cons_succ, List.getElem_toArray, List.getElem_cons_succ, List.getElem_cons_zero]
                refine wpAnyH_take (i := 11) (v := ?vv38) rfl (by kernel_rfl) (by kernel_rfl) (by kernel_rfl) (fun _ _ _ h => h) (Or.inl ⟨by rfl, ?hy38⟩) hHeld ?rr38
                case hy38 => (intro w' hSw; obtain ⟨g0, g1, g2⟩ := hSw; go_simp; try with_reducible rfl)
                try simp only [Act.put, List.setIfInBounds_toArray, List.set_cons_zero, List.set_cons_succ, List.getElem_toArray, List.getElem_cons_succ, List.getElem_cons_zero]
                refine wpAnyH_take (i := 12) (v := ?vv39) rfl (by kernel_rfl) (by kernel_rfl) (by kernel_rfl) (fun _ _ _ h => h) (Or.inl ⟨by rfl, ?hy39⟩) hHeld ?rr39
                case hy39 => (intro w' hSw; obtain ⟨g0, g1, g2⟩ := hSw; go_simp; try with_reducible rfl)
                try simp only [Act.put, List.setIfInBounds_toArray, List.set_cons_zero, List.set_cons_succ, List.getElem_toArray, List.getElem_cons_succ, List.getElem_cons_zero]
                refine wpAnyH_take (i := 13) (v := ?vv40) rfl (by kernel_rfl) (by kernel_rfl) (by kernel_rfl) (fun _ _ _ h => h) (Or.inl ⟨by rfl, ?hy40⟩) hHeld ?rr40
                case hy40 => (intro w' hSw; obtain ⟨g0, g1, g2⟩ := hSw; go_simp; try with_reducible rfl)
                try simp only [Act.put, List.setIfInBounds_toArray, List.set_cons_zero, List.set_cons_succ, List.getElem_toArray, List.getElem_cons_succ, List.getElem_cons_zero]
                refine wpAnyH_ready (rs := [0, 9]) (by kernel_rfl) (by simp) ?_
                refine AllReadyH.cons rfl (fun K hK => ?x41a) (AllReadyH.cons rfl (fun K hK => ?x41b) AllReadyH.nil)
                case x41a =>
                  rw [if_pos (by rfl)]
                  go_simp
                  have hB0 : Below W0.heap.size W0 ((W0.alloc (.cells #[] 46)).drew) := (below_alloc _ _).drew
                  have hsz0 : W0.heap.size < ((W0.alloc (.cells #[] 46)).drew).heap.size := by show W0.heap.size < (W0.alloc _).heap.size; simp
                  have hO0 : ((W0.alloc (.cells #[] 46)).drew).ownsRow (W0.heap.size) 46 2 (.slice (some ⟨W0.heap.size, 0, none⟩) 0 0) 0 [] := own_drew (World.ownsRow_made W0 #[] 0 (Nat.le_refl _) (Nat.zero_le _) rfl)
                  have hs0 : W0.heap.size ≤ ((W0.alloc (.cells #[] 46)).drew).heap.size := Nat.le_of_lt hsz0
                  have hR0 : W0.heap.size ≤ W0.heap.size := Nat.le_refl _
                  generalize (W0.alloc (.cells #[] 46)).drew = V0 at *
                  refine hK.out _ _ (HD.out _ hB0) (fun hHeld2 => ?_)
                  clear hK K hHeld
                  have hHeld := hHeld2
                  clear hHeld2
                  try simp only [Act.put, List.setIfInBounds_toArray, List.set_cons_zero, List.set_cons_succ, List.getElem_toArray, List.getElem_cons_succ, List.getElem_cons_zero]
                  refine wpAnyH_ready (rs := [4, 9]) (by kernel_rfl) (by simp) ?_
                  refine AllReadyH.cons rfl (fun K hK => ?x42a) (AllReadyH.cons rfl (fun K hK => ?x42b) AllReadyH.nil)
                  case x42a =>
                    rw [if_pos (by rfl)]
                    refine oper_append_k _ (.tmp 72) (.tmp 75) 22 rfl 46 i0 (.agg #[.string ⟨#[]⟩, .string ⟨#[]⟩]) 2 32 Tryz.underlying22 hinfo hz0 hz1 hz2 rfl (by decide) (W0.heap.size) _ 0 [] rfl hO0 (some ⟨g, 0, none⟩) k cap ((l2.take k).flatMap encL) rfl (by rw [labF_len, List.length_take, HLN.out, Nat.min_eq_left ht]) (labF_src (labs_take (HLw.out.later hB0) k) (by rw [List.length_take, HLN.out, Nat.min_eq_left ht])) (labF_one _) (by unfold maxLen; omega) (by omega) hs0 ?_
                    intro A1 c1 V1 hO1 hgrow1 _
                    rw [Nat.zero_add, List.nil_append] at hO1
                    rw [Nat.zero_add]
                    have hB1 : Below W0.heap.size W0 V1 := hB0.grown hgrow1 hB0.size (fun j e => Nat.le_trans hR0 (hO0.lt j e).1)
                    have hs1 : (W0.heap.size) ≤ V1.heap.size := Nat.le_trans hs0 hgrow1.size
                    refine hK.out _ _ (HD.out _ hB1) (fun hHeld2 => ?_)
                    clear hK K hHeld
                    have hHeld := hHeld2
                    clear hHeld2
                    try simp only [Act.put, List.setIfInBounds_toArray, List.set_cons_zero, List.set_cons_succ, List.getElem_toArray, List.getElem_cons_succ, List.getElem_cons_zero]
                    refine wpAnyH_ready (rs := [9]) (by kernel_rfl) (by simp) ?_
                    refine AllReadyH.cons rfl (fun K hK => ?_) AllReadyH.nil
                    rw [if_pos (by rfl)]
                    go_simp
                    have hB2 : Below W0.heap.size W0 (V1.alloc (.cells #[strV xk, strV xv] 46)) := hB1.alloc hB1.size _
                    have hsz2 : V1.heap.size < (V1.alloc (.cells #[strV xk, strV xv] 46)).heap.size := by simp
                    have hO2 := hO1.alloc (.cells #[strV xk, strV xv] 46)
                    have hs2 : (W0.heap.size) ≤ (V1.alloc (.cells #[strV xk, strV xv] 46)).heap.size := Nat.le_trans hs1 (by simp)
                    have hX2 : (V1.alloc (.cells #[strV xk, strV xv] 46)).heap[V1.heap.size]? = some (.cells #[strV xk, strV xv] 46 (0, 0)) := heap_new V1 _
                    generalize V1.alloc (.cells #[strV xk, strV xv] 46) = V2 at *
                    refine hK.out _ _ (HD.out _ hB2) (fun hHeld2 => ?_)
                    clear hK K hHeld
                    have hHeld := hHeld2
                    clear hHeld2
                    try simp only [Act.put, List.setIfInBounds_toArray, List.set_cons_zero, List.set_cons_succ, List.getElem_toArray, List.getElem_cons_succ, List.getElem_cons_zero]
                    refine wpAnyH_ready (rs := [10]) (by kernel_rfl) (by simp) ?_
                    refine AllReadyH.cons rfl (fun K hK => ?_) AllReadyH.nil
                    rw [if_pos (by rfl)]
                    refine oper_append_k _ (.tmp 76) (.tmp 81) 22 rfl 46 i0 (.agg #[.string ⟨#[]⟩, .string ⟨#[]⟩]) 2 32 Tryz.underlying22 hinfo hz0 hz1 hz2 rfl (by decide) (W0.heap.size) _ k ((l2.take k).flatMap encL) rfl hO2 (some ⟨V1.heap.size, 0, none⟩) 1 1 [strV xk, strV xv] rfl rfl (fun _ => ⟨_, rfl, one_src hX2⟩) (one_one xk xv) (by unfold maxLen; omega) (by omega) hs2 ?_
                    intro A3 c3 V3 hO3 hgrow3 _
                    have hB3 : Below W0.heap.size W0 V3 := hB2.grown hgrow3 hB2.size (fun j e => Nat.le_trans hR0 (hO2.lt j e).1)
                    have hs3 : (W0.heap.size) ≤ V3.heap.size := Nat.le_trans hs2 hgrow3.size
                    refine hK.out _ _ (HD.out _ hB3) (fun hHeld2 => ?_)
                    clear hK K hHeld
                    have hHeld := hHeld2
                    clear hHeld2
                    try simp only [Act.put, List.setIfInBounds_toArray, List.set_cons_zero, List.set_cons_succ, List.getElem_toArray, List.getElem_cons_succ, List.getElem_cons_zero]
                    refine wpAnyH_ready (rs := [14]) (by kernel_rfl) (by simp) ?_
                    refine AllReadyH.cons rfl (fun K hK => ?_) AllReadyH.nil
                    rw [if_pos (by rfl)]
                    refine oper_append_k _ (.tmp 82) (.tmp 85) 22 rfl 46 i0 (.agg #[.string ⟨#[]⟩, .string ⟨#[]⟩]) 2 32 Tryz.underlying22 hinfo hz0 hz1 hz2 rfl (by decide) (W0.heap.size) _ (k + 1) (((l2.take k).flatMap encL) ++ [strV xk, strV xv]) rfl hO3 _ 0 _ ((l2.drop k).flatMap encL) rfl (by rw [labF_len, List.length_drop, HLN.out, Nat.sub_self]) (fun h => absurd h (Nat.lt_irrefl _)) (labF_one _) (by unfold maxLen; omega) (by omega) hs3 ?_
                    intro A4 c4 V4 hO4 hgrow4 _
                    have hB4 : Below W0.heap.size W0 V4 := hB3.grown hgrow4 hB3.size (fun j e => Nat.le_trans hR0 (hO3.lt j e).1)
                    have hs4 : (W0.heap.size) ≤ V4.heap.size := Nat.le_trans hs3 hgrow4.size
                    refine hK.out _ _ (HD.out _ hB4) (fun hHeld2 => ?_)
                    clear hK K hHeld
                    have hHeld := hHeld2
                    clear hHeld2
                    try simp only [Act.put, List.setIfInBounds_toArray, List.set_cons_zero, List.set_cons_succ, List.getElem_toArray, List.getElem_cons_succ, List.getElem_cons_zero]
                    refine wpAnyH_take (i := 15) (v := ?vv43) rfl (by kernel_rfl) (by kernel_rfl) (by kernel_rfl) (fun _ _ _ h => h) (Or.inl ⟨by rfl, ?hy43⟩) hHeld ?rr43
                    case hy43 => (intro w' hSw; obtain ⟨g0, g1, g2⟩ := hSw; go_simp; try with_reducible rfl)
                    try simp only [Act.put, List.setIfInBounds_toArray, List.set_cons_zero, List.set_cons_succ, List.getElem_toArray, List.getElem_cons_succ, List.getElem_cons_zero]
                    refine wpAnyH_done (by kernel_rfl) ?_ _
                    clear hHeld HD
                    rw [show k + 1 + 0 = k + 1 by omega] at hO4 ⊢
                    have HO := Lib.hid (row_next hO4)
                    have HBn := Lib.hid (HBW.out.trans (hB4.mono HBW.out.size))
                    have HEnd := Lib.hid (own_end hO4)
                    have HK := Lib.hid (lens_next (labs_len HLw.out) HX.out k)
                    clear hB0 hB1 hB2 hB3 hB4 hO4
                    go_wp2
                    go_roundw
                    case rel => exact ⟨k + 1, l2.take k ++ ⟨xk, xv⟩ :: l2.drop k, A4, c4, by omega, by go_num, rfl, Lib.hid (by have := HLN.out; first | (simp; done) | (simp; omega)), HEnd.out.1, Lib.hid (by rw [HNx.out, HNS.out]), Lib.hid (labF_own HO.out (by have := HLN.out; first | (simp; done) | (simp; omega)) HK.out), Lib.hid HEnd.out.2, HBn⟩
                    case measure => simp [intOf]; omega
                  case x42b =>
                    rw [if_pos (by rfl)]
                    go_simp
                    have hB1 : Below W0.heap.size W0 (V0.alloc (.cells #[strV xk, strV xv] 46)) := hB0.alloc hB0.size _
                    have hsz1 : V0.heap.size < (V0.alloc (.cells #[strV xk, strV xv] 46)).heap.size := by simp
                    have hO1 := hO0.alloc (.cells #[strV xk, strV xv] 46)
                    have hs1 : (W0.heap.size) ≤ (V0.alloc (.cells #[strV xk, strV xv] 46)).heap.size := Nat.le_trans hs0 (by simp)
                    have hX1 : (V0.alloc (.cells #[strV xk, strV xv] 46)).heap[V0.heap.size]? = some (.cells #[strV xk, strV xv] 46 (0, 0)) := heap_new V0 _
                    generalize V0.alloc (.cells #[strV xk, strV xv] 46) = V1 at *
                    refine hK.out _ _ (HD.out _ hB1) (fun hHeld2 => ?_)
                    clear hK K hHeld
                    have hHeld := hHeld2
                    clear hHeld2
                    try simp only [Act.put, List.setIfInBounds_toArray, List.set_cons_zero, List.set_cons_succ, List.getElem_toArray, List.getElem_cons_succ, List.getElem_cons_zero]
                    refine wpAnyH_ready (rs := [4]) (by kernel_rfl) (by simp) ?_
                    refine AllReadyH.cons rfl (fun K hK => ?_) AllReadyH.nil
                    rw [if_pos (by rfl)]
                    refine oper_append_k _ (.tmp 72) (.tmp 75) 22 rfl 46 i0 (.agg #[.string ⟨#[]⟩, .string ⟨#[]⟩]) 2 32 Tryz.underlying22 hinfo hz0 hz1 hz2 rfl (by decide) (W0.heap.size) _ 0 [] rfl hO1 (some ⟨g, 0, none⟩) k cap ((l2.take k).flatMap encL) rfl (by rw [labF_len, List.length_take, HLN.out, Nat.min_eq_left ht]) (labF_src (labs_take (HLw.out.later hB1) k) (by rw [List.length_take, HLN.out, Nat.min_eq_left ht])) (labF_one _) (by unfold maxLen; omega) (by omega) hs1 ?_
                    intro A2 c2 V2 hO2 hgrow2 _
                    rw [Nat.zero_add, List.nil_append] at hO2
                    rw [Nat.zero_add]
                    have hB2 : Below W0.heap.size W0 V2 := hB1.grown hgrow2 hB1.size (fun j e => Nat.le_trans hR0 (hO1.lt j e).1)
                    have hs2 : (W0.heap.size) ≤ V2.heap.size := Nat.le_trans hs1 hgrow2.size
                    have hX2 : V2.heap[V0.heap.size]? = some (.cells #[strV xk, strV xv] 46 (0, 0)) := (hgrow2.block _ (heap_lt hX1) (fun e => by have e : some (V0.heap.size) = some (W0.heap.size) := e; injection e with e; omega)).trans hX1
                    refine hK.out _ _ (HD.out _ hB2) (fun hHeld2 => ?_)
                    clear hK K hHeld
                    have hHeld := hHeld2
                    clear hHeld2
                    try simp only [Act.put, List.setIfInBounds_toArray, List.set_cons_zero, List.set_cons_succ, List.getElem_toArray, List.getElem_cons_succ, List.getElem_cons_zero]
                    refine wpAnyH_ready (rs := [10]) (by kernel_rfl) (by simp) ?_
                    refine AllReadyH.cons rfl (fun K hK => ?_) AllReadyH.nil
                    rw [if_pos (by rfl)]
                    refine oper_append_k _ (.tmp 76) (.tmp 81) 22 rfl 46 i0 (.agg #[.string ⟨#[]⟩, .string ⟨#[]⟩]) 2 32 Tryz.underlying22 hinfo hz0 hz1 hz2 rfl (by decide) (W0.heap.size) _ k ((l2.take k).flatMap encL) rfl hO2 (some ⟨V0.heap.size, 0, none⟩) 1 1 [strV xk, strV xv] rfl rfl (fun _ => ⟨_, rfl, one_src hX2⟩) (one_one xk xv) (by unfold maxLen; omega) (by omega) hs2 ?_
                    intro A3 c3 V3 hO3 hgrow3 _
                    have hB3 : Below W0.heap.size W0 V3 := hB2.grown hgrow3 hB2.size (fun j e => Nat.le_trans hR0 (hO2.lt j e).1)
                    have hs3 : (W0.heap.size) ≤ V3.heap.size := Nat.le_trans hs2 hgrow3.size
                    refine hK.out _ _ (HD.out _ hB3) (fun hHeld2 => ?_)
                    clear hK K hHeld
                    have hHeld := hHeld2
                    clear hHeld2
                    try simp only [Act.put, List.setIfInBounds_toArray, List.set_cons_zero, List.set_cons_succ, List.getElem_toArray, List.getElem_cons_succ, List.getElem_cons_zero]
                    refine wpAnyH_ready (rs := [14]) (by kernel_rfl) (by simp) ?_
                    refine AllReadyH.cons rfl (fun K hK => ?_) AllReadyH.nil
                    rw [if_pos (by rfl)]
                    refine oper_append_k _ (.tmp 82) (.tmp 85) 22 rfl 46 i0 (.agg #[.string ⟨#[]⟩, .string ⟨#[]⟩]) 2 32 Tryz.underlying22 hinfo hz0 hz1 hz2 rfl (by decide) (W0.heap.size) _ (k + 1) (((l2.take k).flatMap encL) ++ [strV xk, strV xv]) rfl hO3 _ 0 _ ((l2.drop k).flatMap encL) rfl (by rw [labF_len, List.length_drop, HLN.out, Nat.sub_self]) (fun h => absurd h (Nat.lt_irrefl _)) (labF_one _) (by unfold maxLen; omega) (by omega) hs3 ?_
                    intro A4 c4 V4 hO4 hgrow4 _
                    have hB4 : Below W0.heap.size W0 V4 := hB3.grown hgrow4 hB3.size (fun j e => Nat.le_trans hR0 (hO3.lt j e).1)
                    have hs4 : (W0.heap.size) ≤ V4.heap.size := Nat.le_trans hs3 hgrow4.size
                    refine hK.out _ _ (HD.out _ hB4) (fun hHeld2 => ?_)
                    clear hK K hHeld
                    have hHeld := hHeld2
                    clear hHeld2
                    try simp only [Act.put, List.setIfInBounds_toArray, List.set_cons_zero, List.set_cons_succ, List.getElem_toArray, List.getElem_cons_succ, List.getElem_cons_zero]
                    refine wpAnyH_take (i := 15) (v := ?vv44) rfl (by kernel_rfl) (by kernel_rfl) (by kernel_rfl) (fun _ _ _ h => h) (Or.inl ⟨by rfl, ?hy44⟩) hHeld ?rr44
                    case hy44 => (intro w' hSw; obtain ⟨g0, g1, g2⟩ := hSw; go_simp; try with_reducible rfl)
                    try simp only [Act.put, List.setIfInBounds_toArray, List.set_cons_zero, List.set_cons_succ, List.getElem_toArray, List.getElem_cons_succ, List.getElem_cons_zero]
                    refine wpAnyH_done (by kernel_rfl) ?_ _
                    clear hHeld HD
                    rw [show k + 1 + 0 = k + 1 by omega] at hO4 ⊢
                    have HO := Lib.hid (row_next hO4)
                    have HBn := Lib.hid (HBW.out.trans (hB4.mono HBW.out.size))
                    have HEnd := Lib.hid (own_end hO4)
                    have HK := Lib.hid (lens_next (labs_len HLw.out) HX.out k)
                    clear hB0 hB1 hB2 hB3 hB4 hO4
                    go_wp2
                    go_roundw
                    case rel => exact ⟨k + 1, l2.take k ++ ⟨xk, xv⟩ :: l2.drop k, A4, c4, by omega, by go_num, rfl, Lib.hid (by have := HLN.out; first | (simp; done) | (simp; omega)), HEnd.out.1, Lib.hid (by rw [HNx.out, HNS.out]), Lib.hid (labF_own HO.out (by have := HLN.out; first | (simp; done) | (simp; omega)) HK.out), Lib.hid HEnd.out.2, HBn⟩
                    case measure => simp [intOf]; omega
                case x41b =>
                  rw [if_pos (by rfl)]
                  go_simp
                  have hB0 : Below W0.heap.size W0 ((W0.alloc (.cells #[strV xk, strV xv] 46)).drew) := (below_alloc _ _).drew
                  have hsz0 : W0.heap.size < ((W0.alloc (.cells #[strV xk, strV xv] 46)).drew).heap.size := by show W0.heap.size < (W0.alloc _).heap.size; simp
                  have hX0 : ((W0.alloc (.cells #[strV xk, strV xv] 46)).drew).heap[W0.heap.size]? = some (.cells #[strV xk, strV xv] 46 (0, 0)) := heap_new W0 _
                  generalize (W0.alloc (.cells #[strV xk, strV xv] 46)).drew = V0 at *
                  refine hK.out _ _ (HD.out _ hB0) (fun hHeld2 => ?_)
                  clear hK K hHeld
                  have hHeld := hHeld2
                  clear hHeld2
                  try simp only [Act.put, List.setIfInBounds_toArray, List.set_cons_zero, List.set_cons_succ, List.getElem_toArray, List.getElem_cons_succ, List.getElem_cons_zero]
                  refine wpAnyH_ready (rs := [0]) (by kernel_rfl) (by simp) ?_
                  refine AllReadyH.cons rfl (fun K hK => ?_) AllReadyH.nil
                  rw [if_pos (by rfl)]
                  go_simp
                  have hB1 : Below W0.heap.size W0 (V0.alloc (.cells #[] 46)) := hB0.alloc hB0.size _
                  have hsz1 : V0.heap.size < (V0.alloc (.cells #[] 46)).heap.size := by simp
                  have hX1 : (V0.alloc (.cells #[] 46)).heap[W0.heap.size]? = some (.cells #[strV xk, strV xv] 46 (0, 0)) := heap_old (.cells #[] 46) (heap_lt hX0) hX0
                  have hO1 : (V0.alloc (.cells #[] 46)).ownsRow (V0.heap.size) 46 2 (.slice (some ⟨V0.heap.size, 0, none⟩) 0 0) 0 [] := World.ownsRow_made V0 #[] 0 (Nat.le_refl _) (Nat.zero_le _) rfl
                  have hs1 : V0.heap.size ≤ (V0.alloc (.cells #[] 46)).heap.size := Nat.le_of_lt hsz1
                  have hR1 : W0.heap.size ≤ V0.heap.size := hB0.size
                  generalize V0.alloc (.cells #[] 46) = V1 at *
                  refine hK.out _ _ (HD.out _ hB1) (fun hHeld2 => ?_)
                  clear hK K hHeld
                  have hHeld := hHeld2
                  clear hHeld2
                  try simp only [Act.put, List.setIfInBounds_toArray, List.set_cons_zero, List.set_cons_succ, List.getElem_toArray, List.getElem_cons_succ, List.getElem_cons_zero]
                  refine wpAnyH_ready (rs := [4]) (by kernel_rfl) (by simp) ?_
                  refine AllReadyH.cons rfl (fun K hK => ?_) AllReadyH.nil
                  rw [if_pos (by rfl)]
                  refine oper_append_k _ (.tmp 72) (.tmp 75) 22 rfl 46 i0 (.agg #[.string ⟨#[]⟩, .string ⟨#[]⟩]) 2 32 Tryz.underlying22 hinfo hz0 hz1 hz2 rfl (by decide) (V0.heap.size) _ 0 [] rfl hO1 (some ⟨g, 0, none⟩) k cap ((l2.take k).flatMap encL) rfl (by rw [labF_len, List.length_take, HLN.out, Nat.min_eq_left ht]) (labF_src (labs_take (HLw.out.later hB1) k) (by rw [List.length_take, HLN.out, Nat.min_eq_left ht])) (labF_one _) (by unfold maxLen; omega) (by omega) hs1 ?_
                  intro A2 c2 V2 hO2 hgrow2 _
                  rw [Nat.zero_add, List.nil_append] at hO2
                  rw [Nat.zero_add]
                  have hB2 : Below W0.heap.size W0 V2 := hB1.grown hgrow2 hB1.size (fun j e => Nat.le_trans hR1 (hO1.lt j e).1)
                  have hs2 : (V0.heap.size) ≤ V2.heap.size := Nat.le_trans hs1 hgrow2.size
                  have hX2 : V2.heap[W0.heap.size]? = some (.cells #[strV xk, strV xv] 46 (0, 0)) := (hgrow2.block _ (heap_lt hX1) (fun e => by have e : some (W0.heap.size) = some (V0.heap.size) := e; injection e with e; omega)).trans hX1
                  refine hK.out _ _ (HD.out _ hB2) (fun hHeld2 => ?_)
                  clear hK K hHeld
                  have hHeld := hHeld2
                  clear hHeld2
                  try simp only [Act.put, List.setIfInBounds_toArray, List.set_cons_zero, List.set_cons_succ, List.getElem_toArray, List.getElem_cons_succ, List.getElem_cons_zero]
                  refine wpAnyH_ready (rs := [10]) (by kernel_rfl) (by simp) ?_
                  refine AllReadyH.cons rfl (fun K hK => ?_) AllReadyH.nil
                  rw [if_pos (by rfl)]
                  refine oper_append_k _ (.tmp 76) (.tmp 81) 22 rfl 46 i0 (.agg #[.string ⟨#[]⟩, .string ⟨#[]⟩]) 2 32 Tryz.underlying22 hinfo hz0 hz1 hz2 rfl (by decide) (V0.heap.size) _ k ((l2.take k).flatMap encL) rfl hO2 (some ⟨W0.heap.size, 0, none⟩) 1 1 [strV xk, strV xv] rfl rfl (fun _ => ⟨_, rfl, one_src hX2⟩) (one_one xk xv) (by unfold maxLen; omega) (by omega) hs2 ?_
                  intro A3 c3 V3 hO3 hgrow3 _
                  have hB3 : Below W0.heap.size W0 V3 := hB2.grown hgrow3 hB2.size (fun j e => Nat.le_trans hR1 (hO2.lt j e).1)
                  have hs3 : (V0.heap.size) ≤ V3.heap.size := Nat.le_trans hs2 hgrow3.size
                  refine hK.out _ _ (HD.out _ hB3) (fun hHeld2 => ?_)
                  clear hK K hHeld
                  have hHeld := hHeld2
                  clear hHeld2
                  try simp only [Act.put, List.setIfInBounds_toArray, List.set_cons_zero, List.set_cons_succ, List.getElem_toArray, List.getElem_cons_succ, List.getElem_cons_zero]
                  refine wpAnyH_ready (rs := [14]) (by kernel_rfl) (by simp) ?_
                  refine AllReadyH.cons rfl (fun K hK => ?_) AllReadyH.nil
                  rw [if_pos (by rfl)]
                  refine oper_append_k _ (.tmp 82) (.tmp 85) 22 rfl 46 i0 (.agg #[.string ⟨#[]⟩, .string ⟨#[]⟩]) 2 32 Tryz.underlying22 hinfo hz0 hz1 hz2 rfl (by decide) (V0.heap.size) _ (k + 1) (((l2.take k).flatMap encL) ++ [strV xk, strV xv]) rfl hO3 _ 0 _ ((l2.drop k).flatMap encL) rfl (by rw [labF_len, List.length_drop, HLN.out, Nat.sub_self]) (fun h => absurd h (Nat.lt_irrefl _)) (labF_one _) (by unfold maxLen; omega) (by omega) hs3 ?_
                  intro A4 c4 V4 hO4 hgrow4 _
                  have hB4 : Below W0.heap.size W0 V4 := hB3.grown hgrow4 hB3.size (fun j e => Nat.le_trans hR1 (hO3.lt j e).1)
                  have hs4 : (V0.heap.size) ≤ V4.heap.size := Nat.le_trans hs3 hgrow4.size
                  refine hK.out _ _ (HD.out _ hB4) (fun hHeld2 => ?_)
                  clear hK K hHeld
                  have hHeld := hHeld2
                  clear hHeld2
                  try simp only [Act.put, List.setIfInBounds_toArray, List.set_cons_zero, List.set_cons_succ, List.getElem_toArray, List.getElem_cons_succ, List.getElem_cons_zero]
                  refine wpAnyH_take (i := 15) (v := ?vv45) rfl (by kernel_rfl) (by kernel_rfl) (by kernel_rfl) (fun _ _ _ h => h) (Or.inl ⟨by rfl, ?hy45⟩) hHeld ?rr45
                  case hy45 => (intro w' hSw; obtain ⟨g0, g1, g2⟩ := hSw; go_simp; try with_reducible rfl)
                  try simp only [Act.put, List.setIfInBounds_toArray, List.set_cons_zero, List.set_cons_succ, List.getElem_toArray, List.getElem_cons_succ, List.getElem_cons_zero]
                  refine wpAnyH_done (by kernel_rfl) ?_ _
                  clear hHeld HD
                  rw [show k + 1 + 0 = k + 1 by omega] at hO4 ⊢
                  have HO := Lib.hid (row_next hO4)
                  have HBn := Lib.hid (HBW.out.trans (hB4.mono HBW.out.size))
                  have HEnd := Lib.hid (own_end hO4)
                  have HK := Lib.hid (lens_next (labs_len HLw.out) HX.out k)
                  clear hB0 hB1 hB2 hB3 hB4 hO4
                  go_wp2
                  go_roundw
                  case rel => exact ⟨k + 1, l2.take k ++ ⟨xk, xv⟩ :: l2.drop k, A4, c4, by omega, by go_num, rfl, Lib.hid (by have := HLN.out; first | (simp; done) | (simp; omega)), HEnd.out.1, Lib.hid (by rw [HNx.out, HNS.out]), Lib.hid (labF_own HO.out (by have := HLN.out; first | (simp; done) | (simp; omega)) HK.out), Lib.hid HEnd.out.2, HBn⟩
                  case measure => simp [intOf]; omega

        · obtain rfl : k = l.length := by omega
          have HI2 : Hid (insAll [] l = some l2) := Lib.hid (by have := HI.out; rwa [List.take_length] at this)
          have HOk2 := Lib.hid (HOk.out _ HI2.out)
          by_cases hbig : 16 < l.length
          · have hbig' : 16 < (l.length : Int) := by omega
            have HV2 : Hid (sortB l = .error 3) := Lib.hid (by rw [HOk2.out, if_pos hbig])
            clear HOk2
            go_wp2
            go_ret2
            exact rsrt_err HV2.out HB.out
          · have hbig' : ¬ (16 < (l.length : Int)) := by omega
            have HV2 : Hid (sortB l = .ok l2) := Lib.hid (by rw [HOk2.out, if_neg hbig])
            clear HOk2
            go_wp2
            go_ret2
            exact rsrt_ok HV2.out HLN.out HLo.out HB.out
end Go.Proofs.YtpkjllliidpgoaaGreatDoor
