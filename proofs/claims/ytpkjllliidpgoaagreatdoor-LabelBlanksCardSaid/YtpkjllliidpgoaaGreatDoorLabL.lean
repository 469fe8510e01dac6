/- Walks of package label: labels sorted. -/
import Derived.Test.YtpkjllliidpgoaaGreatDoorLabK
import Derived.Test.YtpkjllliidpgoaaGreatDoorCopyK
import Derived.OwnWalk
set_option linter.unusedSimpArgs false
set_option linter.unusedVariables false
namespace Go.Proofs.YtpkjllliidpgoaaGreatDoor
open Go.ChangeShapes Go.WideShapes Go.ChangeAt Go.RowKit Go.Base Go.Lab

def SrtPost (w : World) (l : List Lb) (e : Ending) (w' : World) : Prop :=
  (∀ c, sortB l = .error c → e = .returned (.tuple #[.slice none 0 0, .int .i64 c])) ∧
  (∀ o, sortB l = .ok o → ∃ g cap, e = .returned (.tuple #[.slice (some ⟨g, 0, none⟩) o.length cap, .int .i64 0]) ∧ Labs w' (some ⟨g, 0, none⟩) o ∧ w.heap.size ≤ g) ∧ Below w.heap.size w w'
theorem own_full {w : World} {base g n m size : Nat} {e : TypeId} {xs : List Value} (h : w.ownsRow base e size (.slice (some ⟨g, 0, none⟩) n m) n xs) : ∃ cur : Array Value, w.heap[g]? = some (.cells cur e (0, 0)) ∧ cur.size = m * size := by
  rcases h.2 with ⟨hbad, _⟩ | ⟨g', cap, cur, hv, hgb, hheap, hnc, hcm, hcs, _⟩
  · cases hbad
  · injection hv with hv _ hc
    injection hv with hv
    injection hv with hv _ _
    subst hv; subst hc
    exact ⟨cur, hheap, hcs⟩
theorem srt_err {w w' : World} {l : List Lb} {c : Int} (h : sortB l = .error c) (hb : Below w.heap.size w w') : SrtPost w l (.returned (.tuple #[.slice none 0 0, .int .i64 c])) w' :=
  ⟨(fun c' h' => by rw [h] at h'; injection h' with h'; subst h'; rfl), (fun o h' => by rw [h] at h'; cases h'), hb⟩
theorem srt_ok {w w' : World} {l d : List Lb} {g cap : Nat} (h : sortB l = .ok d) (hd : d.length = l.length) (hl : Labs w' (some ⟨g, 0, none⟩) d) (hg : w.heap.size ≤ g) (hb : Below w.heap.size w w') : SrtPost w l (.returned (.tuple #[.slice (some ⟨g, 0, none⟩) l.length cap, .int .i64 0])) w' :=
  ⟨(fun c' h' => by rw [h] at h'; cases h'), (fun o h' => by rw [h] at h'; injection h' with h'; subst h'; exact ⟨_, _, by rw [hd], hl, hg⟩), hb⟩
theorem cellsL_src {w : World} {b o : Nat} {l : List Lb} (h : Labs w (some ⟨b, o, none⟩) l) : ∀ j v, (cellsL l)[j]? = some v → w.cell? ((⟨b, o, none⟩ : Addr).add j) = some v := by
  intro j v hv
  have hj : j < l.length * 2 := by have := (List.getElem?_eq_some_iff.1 hv).1; rwa [cellsL_len] at this
  have hadd : (⟨b, o, none⟩ : Addr).add j = ⟨b, o + j, none⟩ := by unfold Addr.add; split <;> simp_all
  rw [hadd]
  obtain ⟨b', o', e, c0, c1, _⟩ := h (j / 2) (by omega)
  injection e with e; injection e with e1 e2 _; subst e1; subst e2
  rcases (by omega : j % 2 = 0 ∨ j % 2 = 1) with hm | hm
  · have hjj : j = j / 2 * 2 := by omega
    have hv2 : (cellsL l)[j / 2 * 2]? = some v := by rw [← hjj]; exact hv
    rw [cellsL_key l (j / 2) (by omega)] at hv2
    rw [show o + j = o + j / 2 * 2 by omega, c0]; exact hv2
  · have hjj : j = j / 2 * 2 + 1 := by omega
    have hv2 : (cellsL l)[j / 2 * 2 + 1]? = some v := by rw [← hjj]; exact hv
    rw [cellsL_val l (j / 2) (by omega)] at hv2
    rw [show o + j = o + j / 2 * 2 + 1 by omega, c1]; exact hv2
theorem labs_src {w : World} {A : Option Addr} {l : List Lb} (h : Labs w A l) : 0 < l.length → ∃ ad, A = some ad ∧ ∀ j v, (cellsL l)[j]? = some v → w.cell? (ad.add j) = some v := fun h0 => by
  obtain ⟨b, o, rfl, _⟩ := h 0 h0
  exact ⟨_, rfl, cellsL_src h⟩
theorem labs_of {w : World} {g : Nat} {d : List Lb} (h : ∀ j v, (cellsL d)[j]? = some v → w.cell? ⟨g, j, none⟩ = some v) (hk : ∀ x ∈ d, x.key.length ≤ maxLen ∧ x.val.length ≤ maxLen) : Labs w (some ⟨g, 0, none⟩) d := fun i hi =>
  ⟨g, 0, rfl, by rw [Nat.zero_add]; exact h _ _ (cellsL_key d i hi), by rw [Nat.zero_add]; exact h _ _ (cellsL_val d i hi), (hk _ (List.getElem_mem hi)).1, (hk _ (List.getElem_mem hi)).2⟩
theorem labs_len {w : World} {A : Option Addr} {l : List Lb} (h : Labs w A l) : ∀ x ∈ l, x.key.length ≤ maxLen ∧ x.val.length ≤ maxLen := fun x hx => by
  obtain ⟨i, hi, rfl⟩ := List.mem_iff_getElem.1 hx
  obtain ⟨_, _, _, _, _, h1, h2⟩ := h i hi
  exact ⟨h1, h2⟩
set_option maxHeartbeats 4000000 in
set_option maxRecDepth 20000 in
theorem labelSort_any (A : Option Addr) (l : List Lb) (c : Nat) (w : World) (hL : Labs w A l) (hm : l.length ≤ 4398046511104) :
    Calls Tryz.prog 8 #[.slice A l.length c] w (SrtPost w l) := by
  have HL := Lib.hid hL
  have hm' : (l.length : Int) ≤ 4398046511104 := by omega
  have HS : Hid (sortB l = if l.all mayOne = false then .error 40 else match insAll [] l with | none => .error 5 | some o => if 16 < l.length then .error 3 else .ok o) := Lib.hid rfl
  obtain ⟨i0, hinfo, hz0, hz1, hz2⟩ := info_parts (P := Tryz.prog) (e := 46) (z := .agg #[.string ⟨#[]⟩, .string ⟨#[]⟩]) (size := 2) (bytes := 32) (by kernel_rfl)
  clear hL
  go_enter Tryz.func8, Tryz.ntmps8
  go_wp2
  go_loopw [5, 10] (fun _ i wr => ∃ k : Nat, k ≤ l.length ∧ i = .int .i64 (k : Int) ∧ Hid (∀ x ∈ l.take k, mayOne x = true) ∧ Hid (Below w.heap.size w wr)) (fun _ i _ => l.length - (intOf i).toNat)
  case atStart => exact ⟨0, Nat.zero_le _, rfl, Lib.hid (by simp), Lib.hid (Below.refl _ _)⟩
  case round =>
    obtain ⟨k, hk, rfl, HF, HB⟩ := hrel
    by_cases hlt : k < l.length
    · have hlt' : (k : Int) < (l.length : Int) := by omega
      have hk0 : (0 : Int) ≤ (k : Int) := by omega
      obtain ⟨b, o, rfl, c0, c1, hx1, hx2⟩ := (HL.out.later HB.out) k hlt
      have HT := Lib.hid (take_mem (p := fun x => mayOne x = true) hlt HF.out)
      have HG : Hid (mayOne l[k] = false → sortB l = .error 40) := Lib.hid (fun h => by
        rw [HS.out, List.all_eq_false.2 ⟨l[k], List.getElem_mem _, by rw [h]; decide⟩, if_pos rfl])
      have HMy := Lib.hid (fun V => mayLabel_any l[k] hx1 hx2 V)
      clear hx1 hx2
      generalize hmo : mayOne l[k] = q at *
      clear hmo
      generalize l[k] = x at *
      obtain ⟨xk, xv⟩ := x
      simp only at c0 c1
      cases q
      · have HV : Hid (sortB l = .error 40) := Lib.hid (HG.out (by first | rfl | trivial))
        go_wp2_with (go_at_call 23; refine (HMy.out _).mono ?_; rintro e w2 ⟨rfl, hb⟩; have HB2 := Lib.hid ((HB.out.alloc HB.out.size _).trans (hb.mono (HB.out.alloc HB.out.size _).size)); clear hb)
        go_ret2
        exact srt_err HV.out HB2.out
      · have HT2 := Lib.hid (HT.out (by first | rfl | trivial))
        go_wp2_with (go_at_call 23; refine (HMy.out _).mono ?_; rintro e w2 ⟨rfl, hb⟩; have HB2 := Lib.hid ((HB.out.alloc HB.out.size _).trans (hb.mono (HB.out.alloc HB.out.size _).size)); clear hb)
        go_roundw
        case rel => exact ⟨k + 1, by omega, by go_num, HT2, HB2⟩
        case measure => simp [intOf]; omega
    · obtain rfl : k = l.length := by omega
      have HAll : Hid (l.all mayOne = true) := Lib.hid (List.all_eq_true.2 (fun x hx => HF.out x (by rw [List.take_length]; exact hx)))
      obtain ⟨wo, rfl⟩ : ∃ wo : World, wo = wr := ⟨_, rfl⟩
      clear hlt hk HF
      go_wp2_with (first | (refine wpList_make_full (o := ⟨some 20, _, _, _, _, _⟩) _ (by rfl) (.tmp 19) (.tmp 19) 22 (by rfl) w.heap.size 46 i0 (.agg #[.string ⟨#[]⟩, .string ⟨#[]⟩]) 2 Tryz.underlying22 hinfo hz0 hz1 .i64 .i64 _ _ l.length (by rfl) (by rfl) (by rfl) (by rfl) (by rw [hz2]; omega) (by unfold maxLen; omega) (HB.out.size) ?_; intro w1 hown hgrow; obtain ⟨cur, hheap, hcs⟩ := own_full hown; have HH := Lib.hid hheap; have HCS := Lib.hid hcs; have HB1 := Lib.hid (HB.out.grown hgrow HB.out.size (fun k h => by cases h)); have HL1 := Lib.hid (HL.out.later HB1.out); clear hown hgrow hheap hcs) | (refine Go.CopyK.wpList_copy_k (o := ⟨some 23, _, _, _, _, _⟩) (by rfl) (.tmp 21) (.tmp 22) 22 22 (by rfl) 46 2 Tryz.underlying22 (by kernel_rfl) wo.heap.size l.length l.length A c (by rfl) (by rfl) cur 46 HH.out (cellsL l) (cellsL_len l) (labs_src HL1.out) (by rw [cellsL_len, HCS.out]) (cellsL_one l) ?_; intro w2 hg2 hb2 hsz2; have HB2 := Lib.hid (hb2 _ _ HB1.out HB.out.size); clear hb2 hsz2) | (go_at_call 24; refine (sort_any wo.heap.size l l.length _ hg2.out (by omega)).mono ?_; rintro e w3 ⟨d, rfl, hp, hs, hc, hb⟩; have HPm := Lib.hid hp; have HSo := Lib.hid hs; have HB3 := Lib.hid (hb _ _ HB2.out HB.out.size); have HD := Lib.hid (labs_of hc (fun x hx => labs_len HL1.out x (hp.subset hx))); clear hp hs hc hb))
      have HDL := Lib.hid HPm.out.length_eq
      have HS2 : Hid (sortB l = match insAll [] l with | none => .error 5 | some o => if 16 < l.length then .error 3 else .ok o) := Lib.hid (by rw [HS.out, HAll.out, if_neg (by decide)])
      have HNo : Hid (∀ i (h : i + 1 < d.length), d[i + 1].key = d[i].key → sortB l = .error 5) := Lib.hid (fun i h he => by rw [HS2.out, sorted_not HPm.out h he])
      have HYes : Hid ((∀ i (h : i + 1 < d.length), d[i + 1].key ≠ d[i].key) → sortB l = if 16 < l.length then .error 3 else .ok d) := Lib.hid (fun hn => by rw [HS2.out, sorted_is HPm.out HSo.out hn])
      have HG : Hid (w.heap.size ≤ wo.heap.size) := Lib.hid HB.out.size
      clear HS2 HPm HSo HAll HS HB HB1 HB2 HL1 HH HCS hg2
      go_loopw [7] (fun j wr => ∃ k n : Nat, (k + 1 ≤ l.length ∨ k = 0) ∧ j = .int .i64 ((k : Int) + 1) ∧ wr = w3.drewN n ∧ Hid (∀ i (h : i + 1 < d.length), i < k → d[i + 1].key ≠ d[i].key)) (fun j _ => l.length - (intOf j).toNat)
      case atStart => exact ⟨0, 0, .inr rfl, by go_num, rfl, Lib.hid (fun i _ h => by cases h)⟩
      case round =>
        obtain ⟨k, n, hk, rfl, rfl, HT⟩ := hrel
        by_cases hlt : k + 1 < l.length
        · have hlt' : (k : Int) + 1 < (l.length : Int) := by omega
          have hlt2 : (k : Int) < (l.length : Int) := by omega
          have hk0 : (0 : Int) ≤ (k : Int) := by omega
          have hk1 : (0 : Int) ≤ (k : Int) + 1 := by omega
          have hkk : ((k : Int) + 1 - 1) = (k : Int) := by omega
          have hd1 : k + 1 < d.length := by have := HDL.out; omega
          obtain ⟨b, o, e1, c0, q1, q2⟩ := HD.out (k + 1) hd1
          clear q1 q2
          injection e1 with e1; injection e1 with e1 e2 e3; subst e1; subst e2; clear e3
          obtain ⟨b, o, e1, d0, q1, q2⟩ := HD.out k (by omega)
          clear q1 q2
          injection e1 with e1; injection e1 with e1 e2 e3; subst e1; subst e2; clear e3
          rw [Nat.zero_add] at c0 d0
          have HT2 : Hid (d[k + 1].key ≠ d[k].key → ∀ i (h : i + 1 < d.length), i < k + 1 → d[i + 1].key ≠ d[i].key) := Lib.hid (fun hn i h hi => by
            by_cases e : i = k
            · subst e; exact hn
            · exact HT.out i h (by omega))
          have HN := Lib.hid (HNo.out k hd1)
          generalize d[k + 1].key = xk at *
          generalize (d[k]'(Nat.lt_of_succ_lt hd1)).key = yk at *
          clear hd1
          cases ek : (xk == yk)
          · have HT3 := Lib.hid (HT2.out (by intro e; rw [e] at ek; simp at ek))
            go_wp2_with fail
            go_quiet (fail)
            go_wp2
            go_roundw
            case rel => exact ⟨k + 1, _, .inl (by omega), by go_num, rfl, HT3⟩
            case measure => simp [intOf]; omega
          · have HV := Lib.hid (HN.out (eq_of_beq ek))
            go_wp2_with fail
            go_quiet (fail)
            go_wp2
            go_ret2
            exact srt_err HV.out (below_drewN (below_drewN HB3.out _) _)
        · have hnot : ¬ ((k : Int) + 1 < (l.length : Int)) := by omega
          have HV := Lib.hid (HYes.out (fun i h => HT.out i h (by have := HDL.out; omega)))
          have HBd := Lib.hid (below_drewN HB3.out n)
          have HDd := Lib.hid (HD.out.later (below_drewN (Below.refl _ _) n))
          by_cases hbig : 16 < l.length
          · have hbig' : 16 < (l.length : Int) := by omega
            have HV2 : Hid (sortB l = .error 3) := Lib.hid (by rw [HV.out, if_pos hbig])
            clear HV
            go_wp2
            go_ret2
            exact srt_err HV2.out HBd.out
          · have hbig' : ¬ (16 < (l.length : Int)) := by omega
            have HV2 : Hid (sortB l = .ok d) := Lib.hid (by rw [HV.out, if_neg hbig])
            clear HV
            go_wp2
            go_ret2
            exact srt_ok HV2.out HDL.out HDd.out HG.out HBd.out
end Go.Proofs.YtpkjllliidpgoaaGreatDoor
