/- Arguments of type Op and []Op of package session's laws, opened; the form's reach, of the bytes in them. No function of the program. -/
import Derived.Test.YtihkjdoajfjnpaaOpen
import Derived.Deep.Slices
import Derived.Deep.Fields
import Derived.Deep.Strs
import Derived.ChangeSame
import Derived.SizedLaws
set_option linter.unusedSimpArgs false
set_option linter.unusedVariables false
namespace Go.Proofs.Ytihkjdoajfjnpaa
open Go.ChangeShapes Go.WideShapes Go.ChangeAt Go.RowKit Go.Base Go.Deep

theorem addr_off2 (b o j : Nat) : (⟨b, o, none⟩ : Addr).add j = ⟨b, o + j, none⟩ := by unfold Addr.add; split <;> simp_all
structure SOp where
  kind : Int
  side : Int
  now : Int
  bA : Option Addr
  bl : List UInt8
  bc : Nat
  e0 : Int
  e1 : Int
  e2 : Int
  e3 : Int
  e4 : Int
  eA : Option Addr
  el : List UInt8
  ec : Nat
def SOp.vals (x : SOp) : List Value := [.int .i64 x.kind, .int .i64 x.side, .slice x.bA x.bl.length x.bc, .int .i64 x.e0, .int .i64 x.e1, .int .i64 x.e2, .int .i64 x.e3, .int .i64 x.e4, .slice x.eA x.el.length x.ec, .int .i64 x.now]
structure SOp.Fit (w : World) (x : SOp) : Prop where
  a1 : -9223372036854775808 ≤ x.side
  a2 : x.side ≤ 9223372036854775807
  b1 : -9223372036854775808 ≤ x.now
  b2 : x.now ≤ 9223372036854775807
  y : Byt w x.bA x.bl
  m : x.bl.length ≤ maxLen
def SOps (w : World) (p : Option Addr) (l : List SOp) : Prop := ∀ (i : Nat) (h : i < l.length), ∃ b o, p = some ⟨b, o, none⟩ ∧ (∀ (j : Nat) u, l[i].vals[j]? = some u → w.cell? ⟨b, o + i * 10 + j, none⟩ = some u) ∧ l[i].Fit w
theorem SOps.later {w w' : World} {p : Option Addr} {l : List SOp} (h : SOps w p l) (hb : Below w.heap.size w w') : SOps w' p l := fun i hi => by
  obtain ⟨b, o, e, c, f⟩ := h i hi
  exact ⟨b, o, e, fun j u hu => cell_later hb (c j u hu), ⟨f.a1, f.a2, f.b1, f.b2, f.y.later hb, f.m⟩⟩
section
variable {H : Type} {enc : TypeId × Value → H} {P : Program}
theorem open_byt_in {t e : TypeId} (ht : P.underlying t = some (.slice e)) (he : P.underlying e = some (.int .u8)) (hc : P.cellsOf e = 1) {w : World} {n : Nat} {v : Value} {x : DataW H × List MemPlace}
    (h : DataW.trod enc P w 0 (fun _ => true) true n t [v] = some x) : ∃ (a : Option Addr) (l : List UInt8) (cap : Nat), v = .slice a l.length cap ∧ Byt w a l ∧ l.length ≤ maxLen := by
  rcases open_ints ht he hc h with ⟨hcs, hx⟩ | ⟨a, len, cap', zs, hcs, _, hl, hm, hz, hx, hcell, hwz⟩
  · injection hcs with hcs; exact ⟨none, [], 0, hcs, Byt.nil _ _, Nat.zero_le _⟩
  · injection hcs with hcs
    subst hcs
    simp only [if_true] at hz
    have hlen : ((zs.take len).map fun n => UInt8.ofNat n.toNat).length = len := by simp; omega
    refine ⟨some a, (zs.take len).map fun n => UInt8.ofNat n.toNat, cap', by rw [hlen], ?_, by rw [hlen]; omega⟩
    intro i hi
    rw [hlen] at hi
    have hc0 := hcell i (by omega)
    have hw := hwz zs[i] (List.getElem_mem _)
    have hb := bounds_u8 hw
    obtain ⟨b, o, s⟩ := a
    obtain rfl : s = none := by simpa [Addr.add] using World.cell?_spot (hcell 0 (by omega))
    refine ⟨b, o, rfl, ?_⟩
    rw [addr_off2] at hc0
    rw [hc0]
    have e2 : zs.getD i 0 = zs[i]'(by omega) := by simp [List.getD, show i < zs.length by omega]
    rw [e2]
    simp
    omega
/-- The types' facts, in one. -/
structure OpT (P : Program) (t ti tb te tv : TypeId) : Prop where
  op : ∃ f0 f1 f2 f3 f4 : Field, P.underlying t = some (.struct #[f0, f1, f2, f3, f4]) ∧ (f0.offset = 0 ∧ f1.offset = 1 ∧ f2.offset = 2 ∧ f3.offset = 3 ∧ f4.offset = 9) ∧ (f0.type = ti ∧ f1.type = ti ∧ f2.type = tb ∧ f3.type = tv ∧ f4.type = ti)
  ev : ∃ f0 f1 f2 f3 f4 f5 : Field, P.underlying tv = some (.struct #[f0, f1, f2, f3, f4, f5]) ∧ (f0.offset = 0 ∧ f1.offset = 1 ∧ f2.offset = 2 ∧ f3.offset = 3 ∧ f4.offset = 4 ∧ f5.offset = 5) ∧ (f0.type = ti ∧ f1.type = ti ∧ f2.type = ti ∧ f3.type = ti ∧ f4.type = ti ∧ f5.type = tb)
  c10 : P.cellsOf t = 10
  c6 : P.cellsOf tv = 6
  i : P.underlying ti = some (.int .i64)
  b : P.underlying tb = some (.slice te)
  e : P.underlying te = some (.int .u8)
  ci : P.cellsOf ti = 1
  cb : P.cellsOf tb = 1
  ce : P.cellsOf te = 1
theorem sop_of {t ti tb te tv : TypeId} (T : OpT P t ti tb te tv) {W : World} {n : Nat} {cs : List Value} {x : DataW H × List MemPlace} (h : DataW.trod enc P W 0 (fun _ => true) true n t cs = some x) : ∃ x : SOp, cs = x.vals ∧ x.Fit W := by
  obtain ⟨f0, f1, f2, f3, f4, he, ⟨o0, o1, o2, o3, o4⟩, ⟨t0, t1, t2, t3, t4⟩⟩ := T.op
  obtain ⟨v0, v1, v2, v3, v4, v5, hev, ⟨p0, p1, p2, p3, p4, p5⟩, ⟨s0, s1, s2, s3, s4, s5⟩⟩ := T.ev
  obtain ⟨ys, n', hn', hy, hlen, hyl, hf⟩ := DataW.trod_struct he h
  rw [T.c10] at hlen
  obtain ⟨u0, u1, u2, u3, u4, u5, u6, u7, u8, u9, rfl⟩ : ∃ u0 u1 u2 u3 u4 u5 u6 u7 u8 u9, cs = [u0, u1, u2, u3, u4, u5, u6, u7, u8, u9] := by
    match cs, hlen with
    | [u0, u1, u2, u3, u4, u5, u6, u7, u8, u9], _ => exact ⟨u0, u1, u2, u3, u4, u5, u6, u7, u8, u9, rfl⟩
  have g0 := hf 0 f0 rfl
  have g1 := hf 1 f1 rfl
  have g2 := hf 2 f2 rfl
  have g3 := hf 3 f3 rfl
  have g4 := hf 4 f4 rfl
  have hys : ∀ j, j < 5 → ∃ y, ys[j]? = some y := fun j hj => ⟨ys[j]'(by rw [hyl]; exact hj), List.getElem?_eq_getElem _⟩
  obtain ⟨y0, hy0⟩ := hys 0 (by omega)
  obtain ⟨y1, hy1⟩ := hys 1 (by omega)
  obtain ⟨y2, hy2⟩ := hys 2 (by omega)
  obtain ⟨y3, hy3⟩ := hys 3 (by omega)
  obtain ⟨y4, hy4⟩ := hys 4 (by omega)
  rw [t0, o0, T.ci, hy0] at g0
  rw [t1, o1, T.ci, hy1] at g1
  rw [t2, o2, T.cb, hy2] at g2
  rw [t3, o3, T.c6, hy3] at g3
  rw [t4, o4, T.ci, hy4] at g4
  obtain ⟨z0, hz0, _, hw0⟩ := DataW.trod_int T.i g0
  obtain ⟨z1, hz1, _, hw1⟩ := DataW.trod_int T.i g1
  obtain ⟨ba, bl, bc, hz2, hB, hbm⟩ := open_byt_in T.b T.e T.ce (v := u2) g2
  obtain ⟨z4, hz4, _, hw4⟩ := DataW.trod_int T.i g4
  obtain ⟨xs, m', hm', hx, hxl, hxs, hg⟩ := DataW.trod_struct hev g3
  have k0 := hg 0 v0 rfl
  have k1 := hg 1 v1 rfl
  have k2 := hg 2 v2 rfl
  have k3 := hg 3 v3 rfl
  have k4 := hg 4 v4 rfl
  have k5 := hg 5 v5 rfl
  have hxx : ∀ j, j < 6 → ∃ y, xs[j]? = some y := fun j hj => ⟨xs[j]'(by rw [hxs]; exact hj), List.getElem?_eq_getElem _⟩
  obtain ⟨q0, hq0⟩ := hxx 0 (by omega)
  obtain ⟨q1, hq1⟩ := hxx 1 (by omega)
  obtain ⟨q2, hq2⟩ := hxx 2 (by omega)
  obtain ⟨q3, hq3⟩ := hxx 3 (by omega)
  obtain ⟨q4, hq4⟩ := hxx 4 (by omega)
  obtain ⟨q5, hq5⟩ := hxx 5 (by omega)
  rw [s0, p0, T.ci, hq0] at k0
  rw [s1, p1, T.ci, hq1] at k1
  rw [s2, p2, T.ci, hq2] at k2
  rw [s3, p3, T.ci, hq3] at k3
  rw [s4, p4, T.ci, hq4] at k4
  rw [s5, p5, T.cb, hq5] at k5
  obtain ⟨r0, hr0, _, _⟩ := DataW.trod_int T.i k0
  obtain ⟨r1, hr1, _, _⟩ := DataW.trod_int T.i k1
  obtain ⟨r2, hr2, _, _⟩ := DataW.trod_int T.i k2
  obtain ⟨r3, hr3, _, _⟩ := DataW.trod_int T.i k3
  obtain ⟨r4, hr4, _, _⟩ := DataW.trod_int T.i k4
  obtain ⟨ea, el, ec, hr5, hE, hem⟩ := open_byt_in T.b T.e T.ce (v := u8) k5
  simp at hz0 hz1 hz4 hr0 hr1 hr2 hr3 hr4
  subst hz0; subst hz1; subst hz2; subst hz4; subst hr0; subst hr1; subst hr2; subst hr3; subst hr4; subst hr5
  have b1 := bounds_i64 hw1
  have b2 := bounds_i64 hw4
  exact ⟨⟨z0, z1, z4, ba, bl, bc, r0, r1, r2, r3, r4, ea, el, ec⟩, rfl, ⟨b1.1, b1.2, b2.1, b2.2, hB, hbm⟩⟩
/-- AN ARGUMENT OF TYPE Op. -/
theorem open_sop {t ti tb te tv : TypeId} (T : OpT P t ti tb te tv) {W : World} {b0 : Nat} {v : Value} {d0 : DataW H} {p : List MemPlace}
    (hv : Value.okWide P W .any b0 t v) (h0 : DataW.Trod enc P W 0 (fun _ => true) true t v d0 p) : ∃ x : SOp, v = .agg x.vals.toArray ∧ x.Fit W := by
  obtain ⟨f0, f1, f2, f3, f4, he, _⟩ := T.op
  obtain ⟨cs, rfl, hsz⟩ := okWide_struct he hv
  obtain ⟨fuel, hf⟩ := h0
  obtain ⟨x, hx, hfit⟩ := sop_of T hf
  refine ⟨x, ?_, hfit⟩
  have : (Value.agg cs).cells.toList = cs.toList := by simp [Value.cells]
  rw [this] at hx
  rw [← hx]
/-- AN ARGUMENT OF TYPE []Op. -/
theorem open_sops {tl t ti tb te tv : TypeId} (ht : P.underlying tl = some (.slice t)) (T : OpT P t ti tb te tv) {W : World} {b0 : Nat} {v : Value} {d0 : DataW H} {p : List MemPlace}
    (hv : Value.okWide P W .any b0 tl v) (h0 : DataW.Trod enc P W 0 (fun _ => true) true tl v d0 p) :
    ∃ (a : Option Addr) (l : List SOp) (cap : Nat), v = .slice a l.length cap ∧ SOps W a l ∧ l.length ≤ maxLen := by
  obtain ⟨a0, len, cap, rfl⟩ := okWide_slice ht hv
  obtain ⟨fuel, hf⟩ := h0
  rcases open_slice ht hf with ⟨hcs, hx⟩ | ⟨a, len', cap', m, n, D, Pl, hcs, _, hl1, hm, hmm, hx, hcell⟩
  · simp [Value.cells] at hcs
    obtain ⟨rfl, rfl, rfl⟩ := hcs
    exact ⟨none, [], 0, rfl, fun i hi => absurd hi (Nat.not_lt_zero _), Nat.zero_le _⟩
  · simp [Value.cells] at hcs
    obtain ⟨rfl, rfl, rfl⟩ := hcs
    simp only [if_true] at hmm
    have each : ∀ i, i < len → ∃ x : SOp, (a.spot = none) ∧ (∀ (j : Nat) u, x.vals[j]? = some u → W.cell? ⟨a.block, a.off + i * 10 + j, none⟩ = some u) ∧ x.Fit W := fun i hil => by
      have hspot : a.spot = none := by
        obtain ⟨cs', hc, _⟩ := hcell 0 (by omega)
        rw [T.c10] at hc
        obtain ⟨_, hcl, hat⟩ := World.cells?_some hc
        match cs', hcl with
        | u0 :: _, _ => exact World.cell?_spot (hat 0 (by omega))
      obtain ⟨cs', hc, ht'⟩ := hcell i (by omega)
      rw [T.c10] at hc
      obtain ⟨x, rfl, hfit⟩ := sop_of T ht'
      obtain ⟨_, hcl, hat⟩ := World.cells?_some hc
      refine ⟨x, hspot, fun j u hu => ?_, hfit⟩
      have hj : j < x.vals.length := (List.getElem?_eq_some_iff.1 hu).1
      have hk := hat j (by rw [← hcl]; exact hj)
      obtain ⟨b, o, s⟩ := a
      simp only at hspot
      subst hspot
      rw [addr_off2, addr_off2] at hk
      rw [hk, ← hu]
    obtain ⟨f, hf⟩ := @choose_lt SOp ⟨⟨0, 0, 0, none, [], 0, 0, 0, 0, 0, 0, none, [], 0⟩⟩ len _ each
    refine ⟨some a, (List.range len).map f, cap, by simp, ?_, by simp; omega⟩
    intro i hil
    have hil' : i < len := by simpa using hil
    obtain ⟨hsp, hk, hfit⟩ := hf i hil'
    obtain ⟨b, o, s⟩ := a
    simp only at hsp
    subst hsp
    refine ⟨b, o, rfl, ?_, ?_⟩
    · simpa using hk
    · simpa using hfit
theorem weightsAll_mem {e : TypeId} {d : DataW H} {k : Nat} (hk : k ∈ d.weights P e) : ∀ {l : List (DataW H)}, d ∈ l → k ∈ DataW.weightsAll P e l
  | x :: r, h => by
    simp only [DataW.weightsAll, List.mem_append]
    rcases List.mem_cons.1 h with rfl | h
    · exact Or.inl hk
    · exact Or.inr (weightsAll_mem hk h)
theorem sops_reach {tl t ti tb te tv : TypeId} (ht : P.underlying tl = some (.slice t)) (T : OpT P t ti tb te tv) (hby : P.bytesOf te = 1)
    {W : World} {a : Option Addr} {l : List SOp} {cap : Nat} {d0 : DataW H} {p : List MemPlace} (h0 : DataW.Trod enc P W 0 (fun _ => true) true tl (.slice a l.length cap) d0 p) (hN : SOps W a l)
    {tys : List TypeId} {ds : List (DataW H)} (hz : (DataW.weightsEach P tys ds).all (· ≤ reachBytes) = true) (j : Nat) (hj : tys[j]? = some tl) (hd : ds[j]? = some d0) : ∀ (i : Nat) (h : i < l.length), l[i].bl.length ≤ 140737488355328 := by
  obtain ⟨fuel, hf⟩ := h0
  intro i hi
  rcases open_slice ht hf with ⟨hcs, hx⟩ | ⟨a', len', cap', m, n, D, Pl, hcs, _, hl1, hm, hmm, hx, hcell⟩
  · simp [Value.cells] at hcs
    obtain ⟨_, h1, _⟩ := hcs
    subst h1
    exact absurd hi (Nat.not_lt_zero _)
  · simp [Value.cells] at hcs
    obtain ⟨rfl, rfl, rfl⟩ := hcs
    simp only [if_true] at hmm
    obtain ⟨cs', hc, ht'⟩ := hcell i (by omega)
    rw [T.c10] at hc
    obtain ⟨f0, f1, f2, f3, f4, he, ⟨o0, o1, o2, o3, o4⟩, ⟨t0, t1, t2, t3, t4⟩⟩ := T.op
    obtain ⟨ys, n', hn', hy, hlen, hyl, hfl⟩ := DataW.trod_struct he ht'
    obtain ⟨_, hcl, hat⟩ := World.cells?_some hc
    obtain ⟨u0, u1, u2, u3, u4, u5, u6, u7, u8, u9, rfl⟩ : ∃ u0 u1 u2 u3 u4 u5 u6 u7 u8 u9, cs' = [u0, u1, u2, u3, u4, u5, u6, u7, u8, u9] := by
      match cs', hcl with
      | [u0, u1, u2, u3, u4, u5, u6, u7, u8, u9], _ => exact ⟨u0, u1, u2, u3, u4, u5, u6, u7, u8, u9, rfl⟩
    have g2 := hfl 2 f2 rfl
    obtain ⟨y2, hy2⟩ : ∃ y, ys[2]? = some y := ⟨ys[2]'(by rw [hyl]; exact (by decide : 2 < 5)), List.getElem?_eq_getElem _⟩
    rw [t2, o2, T.cb, hy2] at g2
    obtain ⟨b, o, ea, hq, _⟩ := hN i hi
    have q2 := hq 2 _ rfl
    have k2 := hat 2 (by omega)
    injection ea with ea
    subst ea
    rw [addr_off2, addr_off2] at k2
    have hu : u2 = .slice l[i].bA l[i].bl.length l[i].bc := by
      have := k2.symm.trans q2
      simpa using this
    subst hu
    rcases open_ints T.b T.e T.ce g2 with ⟨hc0, _⟩ | ⟨a2, len2, cap2, zs, hc0, _, hl2, hm2, hz2, hx2, _⟩
    · simp at hc0
      rw [hc0.2.1]; simp
    · simp at hc0
      obtain ⟨_, hl3, _⟩ := hc0
      simp only [if_true] at hz2
      have m1 : ((lits .u8 (zs.take len2) : List (DataW H)).length + (lits .u8 (zs.drop len2) : List (DataW H)).length) * P.bytesOf te ∈ (y2.1).weights P tb := by
        rw [hx2]; simp [DataW.weights, T.b]
      have m2 := DataW.weights_mem_each (ts := (#[f0, f1, f2, f3, f4] : Array Field).toList.map (·.type)) (ds := ys.map (·.1)) (j := 2) (t := tb) (d := y2.1) (by simp [t2]) (by simp [hy2]) _ m1
      have m3 : ((lits .u8 (zs.take len2) : List (DataW H)).length + (lits .u8 (zs.drop len2) : List (DataW H)).length) * P.bytesOf te ∈ (D i).weights P t := by
        injection hy with hy _
        rw [hy]
        simp only [DataW.weights, he]
        exact m2
      have m4 := weightsAll_mem m3 (l := (List.range l.length).map D) (List.mem_map.2 ⟨i, List.mem_range.2 hi, rfl⟩)
      have m5 : ((lits .u8 (zs.take len2) : List (DataW H)).length + (lits .u8 (zs.drop len2) : List (DataW H)).length) * P.bytesOf te ∈ d0.weights P tl := by
        simp only [Prod.mk.injEq] at hx
        rw [hx.1]
        simp only [DataW.weights, ht]
        exact List.mem_cons_of_mem _ (List.mem_append_left _ m4)
      have h := List.all_eq_true.1 hz _ (DataW.weights_mem_each hj hd _ m5)
      simp only [lits, List.length_map, List.length_take, List.length_drop, hby, reachBytes, decide_eq_true_eq] at h
      omega
end
theorem opT : OpT Try.prog 31 3 27 5 29 :=
  ⟨⟨_, _, _, _, _, Try.underlying31, ⟨rfl, rfl, rfl, rfl, rfl⟩, ⟨rfl, rfl, rfl, rfl, rfl⟩⟩, ⟨_, _, _, _, _, _, Try.underlying29, ⟨rfl, rfl, rfl, rfl, rfl, rfl⟩, ⟨rfl, rfl, rfl, rfl, rfl, rfl⟩⟩, by kernel_rfl, by kernel_rfl, Try.underlying3, Try.underlying27, Try.underlying5, by kernel_rfl, by kernel_rfl, by kernel_rfl⟩
end Go.Proofs.Ytihkjdoajfjnpaa
