/- What every program must do (lives of the laws). -/
import Derived.Test.YtihkjdoajfjnpaaSesX
import Derived.Lib.SlBytesConst
set_option linter.unusedSimpArgs false
set_option linter.unusedVariables false
namespace Go.Ses
def livesL : List (Int × Nat × Int × Bytes) := [(3,0,0,[]),(3,1,0,[]),(4,0,0,[]),(4,1,0,[]),(3,0,1,[]),(3,1,1,[]),(4,0,0,[]),(4,1,0,[]),(1,0,0,[104,105]),(3,0,2,[]),(4,1,0,[])]
def runs : List (Int × Nat × Int × Bytes) → Side × Side → Side × Side
  | [], p => p
  | (k, 0, now, b) :: r, p => runs r (doS k now b p.1 p.2)
  | (k, _ + 1, now, b) :: r, p => runs r ((doS k now b p.2 p.1).2, (doS k now b p.2 p.1).1)
def stepX (X : Nat → Side) (o : Int × Nat × Int × Bytes) : Nat → Side := doX o.1 o.2.2.1 o.2.2.2 o.2.1 X
theorem runs_is : ∀ (l : List (Int × Nat × Int × Bytes)) (X : Nat → Side), (∀ o ∈ l, o.2.1 < 2) → (l.foldl stepX X 0 = (runs l (X 0, X 1)).1 ∧ l.foldl stepX X 1 = (runs l (X 0, X 1)).2)
  | [], X, _ => ⟨rfl, rfl⟩
  | (k, 0, now, b) :: r, X, h => by
    have := runs_is r (stepX X (k, 0, now, b)) (fun o ho => h o (List.mem_cons_of_mem _ ho))
    exact this
  | (k, 1, now, b) :: r, X, h => by
    have := runs_is r (stepX X (k, 1, now, b)) (fun o ho => h o (List.mem_cons_of_mem _ ho))
    exact this
  | (k, n + 2, now, b) :: r, X, h => by
    have h2 : n + 2 < 2 := h _ (List.mem_cons_self)
    omega
end Go.Ses
namespace Go.Proofs.Ytihkjdoajfjnpaa
open Go.ChangeShapes Go.WideShapes Go.ChangeAt Go.RowKit Go.Base Go.Ses

def XL (i : Nat) : Nat → Side := (livesL.take i).foldl stepX X0
theorem xl_end : (XL 11 0).ss.l.knows = true ∧ (XL 11 1).ss.l.knows = true ∧ (XL 11 1).came = [[104, 105]] ∧ (XL 11 0).ss.l.out.length = 1 := by
  have h := runs_is livesL X0 (by decide)
  have e0 : XL 11 0 = (runs livesL (newSide, newSide)).1 := h.1
  have e1 : XL 11 1 = (runs livesL (newSide, newSide)).2 := h.2
  rw [e0, e1]
  exact ⟨by decide, by decide, by decide, by decide⟩
theorem xl_step {i : Nat} {o : Int × Nat × Int × Bytes} (h : livesL[i]? = some o) : XL (i + 1) = stepX (XL i) o := by
  unfold XL
  rw [List.take_add_one, h, List.foldl_append]
  rfl
theorem lives_all : ∀ o ∈ livesL, (o.2.2.2 = [] ∨ o.2.2.2 = [104, 105]) ∧ o.2.1 < 2 ∧ 0 ≤ o.2.2.1 ∧ o.2.2.1 ≤ 2 := by decide
def bodyV (kb : Nat) (b : Bytes) : Value := if b.isEmpty then .slice none 0 0 else .slice (some ⟨kb, 0, none⟩) 2 2
def opC (kb : Nat) (o : Int × Nat × Int × Bytes) : List Value := [.int .i64 o.1, .int .i64 (o.2.1 : Int), bodyV kb o.2.2.2, .int .i64 0, .int .i64 0, .int .i64 0, .int .i64 0, .int .i64 0, .slice none 0 0, .int .i64 o.2.2.1]
def opsC (kb : Nat) : List Value := livesL.flatMap (opC kb)
theorem opsC_at (kb : Nat) : ∀ (l : List (Int × Nat × Int × Bytes)) (i j : Nat) (o : Int × Nat × Int × Bytes), l[i]? = some o → j < 10 → (l.flatMap (opC kb))[i * 10 + j]? = (opC kb o)[j]?
  | [], i, j, o, h, _ => by simp at h
  | a :: r, 0, j, o, h, hj => by
    simp only [List.getElem?_cons_zero, Option.some.injEq] at h
    subst h
    rw [List.flatMap_cons, Nat.zero_mul, Nat.zero_add, List.getElem?_append_left (by simp [opC]; omega)]
  | a :: r, i + 1, j, o, h, hj => by
    rw [List.getElem?_cons_succ] at h
    have := opsC_at kb r i j o h hj
    rw [List.flatMap_cons, List.getElem?_append_right (by simp [opC]; omega), show (i + 1) * 10 + j - (opC kb a).length = i * 10 + j by simp [opC]; omega]
    exact this
structure Liv (w wr : World) (kb ob i : Nat) : Prop where
  bun : Bun w.heap.size wr w.heap.size (XL i) i
  ops : wr.heap[ob]? = some (.cells (opsC kb).toArray 31 (0, 0))
  bod : wr.heap[kb]? = some (.cells #[.int .u8 104, .int .u8 105] 5 (2, 3))
  below : Below w.heap.size w wr
theorem Liv.cell {w wr : World} {kb ob i : Nat} (h : Liv w wr kb ob i) {o : Int × Nat × Int × Bytes} (ho : livesL[i]? = some o) (j : Nat) (hj : j < 10) (u : Value) (hu : (opC kb o)[j]? = some u) : wr.cell? ⟨ob, i * 10 + j, none⟩ = some u := by
  rw [(cells_of_heap h.ops).1, ← hu, ← opsC_at kb livesL i j o ho hj]
  show (opsC kb).toArray[i * 10 + j]? = _
  rw [List.getElem?_toArray]; rfl
theorem Liv.body {w wr : World} {kb ob i : Nat} (h : Liv w wr kb ob i) {b : Bytes} (hb : b = [] ∨ b = [104, 105]) : ∃ A c, bodyV kb b = .slice A b.length c ∧ Bd w.heap.size wr A b := by
  rcases hb with rfl | rfl
  · exact ⟨none, 0, rfl, .inl (.inl rfl)⟩
  · refine ⟨some ⟨kb, 0, none⟩, 2, rfl, .inl (.inr ⟨kb, 0, _, _, rfl, h.bod, fun i hi => ?_⟩)⟩
    match i, hi with
    | 0, _ => rfl
    | 1, _ => rfl
theorem Liv.next {w wr w' : World} {kb ob i : Nat} (h : Liv w wr kb ob i) (hb : Bun w.heap.size w' w.heap.size (XL (i + 1)) (i + 1)) (hl : Below w.heap.size wr w') (hk : Ku wr w') : Liv w w' kb ob (i + 1) :=
  ⟨hb, hk _ ob _ _ (.inr rfl) h.ops, hk _ kb _ _ (.inl rfl) h.bod, h.below.trans hl⟩
theorem Liv.later {w wr w' : World} {kb ob i : Nat} (h : Liv w wr kb ob i) (hb : Below wr.heap.size wr w') : Liv w w' kb ob i :=
  ⟨h.bun.later hb, (hb.block _ (heap_lt h.ops)).trans h.ops, (hb.block _ (heap_lt h.bod)).trans h.bod, h.below.trans (hb.mono h.below.size)⟩
set_option maxHeartbeats 8000000 in
set_option maxRecDepth 20000 in
theorem lives_any (w : World) : Calls Try.prog 7 #[] w fun e w' => e = .returned (.bool true) ∧ Below w.heap.size w w' := by
  have HCv := Lib.hid (fun (V : World) (A : Option Addr) (c : Nat) (h : Byt V A [104, 105]) => run_convert_byt (P := Try.prog) (src := 27) (dst := 9) Try.underlying27 Try.underlying5 Try.underlying9 2 c rfl h)
  have HBg := Lib.hid (begin_any w)
  have kc := fun (w : World) (C : Array Value) (n c : Nat) => Lib.run_convert_bytes_const (P := Try.prog) w 27 5 C n c Try.underlying27 Try.underlying5
  go_enter Try.func7, Try.ntmps7
  go_wp2_with (first
    | (go_at_call 6; refine Calls.mono HBg.out ?_; rintro e w1 ⟨rfl, hb1⟩; have HB1 := Lib.hid hb1; clear hb1; skip))
  obtain ⟨w3, hw3⟩ : ∃ x, x = (w1.alloc (.cells #[.int .u8 104, .int .u8 105] 5 (2, 3))).alloc (.cells #[.int .i64 3, .int .i64 0, .slice none 0 0, .int .i64 0, .int .i64 0, .int .i64 0, .int .i64 0, .int .i64 0, .slice none 0 0, .int .i64 0, .int .i64 3, .int .i64 1, .slice none 0 0, .int .i64 0, .int .i64 0, .int .i64 0, .int .i64 0, .int .i64 0, .slice none 0 0, .int .i64 0, .int .i64 4, .int .i64 0, .slice none 0 0, .int .i64 0, .int .i64 0, .int .i64 0, .int .i64 0, .int .i64 0, .slice none 0 0, .int .i64 0, .int .i64 4, .int .i64 1, .slice none 0 0, .int .i64 0, .int .i64 0, .int .i64 0, .int .i64 0, .int .i64 0, .slice none 0 0, .int .i64 0, .int .i64 3, .int .i64 0, .slice none 0 0, .int .i64 0, .int .i64 0, .int .i64 0, .int .i64 0, .int .i64 0, .slice none 0 0, .int .i64 1, .int .i64 3, .int .i64 1, .slice none 0 0, .int .i64 0, .int .i64 0, .int .i64 0, .int .i64 0, .int .i64 0, .slice none 0 0, .int .i64 1, .int .i64 4, .int .i64 0, .slice none 0 0, .int .i64 0, .int .i64 0, .int .i64 0, .int .i64 0, .int .i64 0, .slice none 0 0, .int .i64 0, .int .i64 4, .int .i64 1, .slice none 0 0, .int .i64 0, .int .i64 0, .int .i64 0, .int .i64 0, .int .i64 0, .slice none 0 0, .int .i64 0, .int .i64 1, .int .i64 0, .slice (some ⟨w1.heap.size, 0, none⟩) 2 2, .int .i64 0, .int .i64 0, .int .i64 0, .int .i64 0, .int .i64 0, .slice none 0 0, .int .i64 0, .int .i64 3, .int .i64 0, .slice none 0 0, .int .i64 0, .int .i64 0, .int .i64 0, .int .i64 0, .int .i64 0, .slice none 0 0, .int .i64 2, .int .i64 4, .int .i64 1, .slice none 0 0, .int .i64 0, .int .i64 0, .int .i64 0, .int .i64 0, .int .i64 0, .slice none 0 0, .int .i64 0] 31) := ⟨_, rfl⟩
  rw [← hw3]
  obtain ⟨kb, hkb⟩ : ∃ k, k = w1.heap.size := ⟨_, rfl⟩
  obtain ⟨ob, hob⟩ : ∃ k, k = w1.heap.size + 1 := ⟨_, rfl⟩
  have hlv : Liv w w3 kb ob 0 := by
    obtain ⟨w2, hw2⟩ : ∃ x, x = w1.alloc (.cells #[.int .u8 104, .int .u8 105] 5 (2, 3)) := ⟨_, rfl⟩
    rw [← hw2] at hw3
    have b2 : Below w1.heap.size w1 w2 := (by rw [hw2]; exact below_alloc _ _)
    have b3 : Below w2.heap.size w2 w3 := (by rw [hw3]; exact below_alloc _ _)
    have k2 : w2.heap[w1.heap.size]? = some (.cells #[.int .u8 104, .int .u8 105] 5 (2, 3)) := (by rw [hw2]; exact heap_new w1 _)
    have hz : ob = w2.heap.size := by rw [hob, hw2]; simp
    rw [← hkb] at k2
    have k3 : w3.heap[ob]? = some (.cells (opsC kb).toArray 31 (0, 0)) := by
      rw [hz, hw3, hkb]; exact heap_new w2 _
    exact ⟨(HB1.out.1.later b2).later b3, k3, (b3.block _ (heap_lt k2)).trans k2, HB1.out.2.trans ((b2.trans (b3.mono b2.size)).mono HB1.out.2.size)⟩
  have HLv := Lib.hid hlv
  rw [← hob]
  clear hkb hob hlv hw3 HB1 HBg
  go_loopw [3] (fun iv wr => ∃ i : Nat, i ≤ 11 ∧ iv = .int .i64 (i : Int) ∧ Hid (Liv w wr kb ob i)) (fun iv _ => 11 - (intOf iv).toNat)
  case atStart => exact ⟨0, by omega, rfl, HLv⟩
  case round =>
    obtain ⟨i, hi, rfl, H⟩ := hrel
    by_cases hlt : i < 11
    · obtain ⟨o, ho⟩ : ∃ o, livesL[i]? = some o := ⟨_, List.getElem?_eq_getElem (show i < livesL.length from hlt)⟩
      have hal := lives_all o (List.mem_of_getElem? ho)
      have hlt1 : (i : Int) < 11 := by omega
      have hi0 : (0 : Int) ≤ (i : Int) := by omega
      obtain ⟨A0, c0, hbv, hbd⟩ := H.out.body hal.1
      have hc := fun j hj u hu => H.out.cell ho j hj u hu
      obtain ⟨k, b, now, bd⟩ := o
      have HXs := Lib.hid (xl_step ho)
      obtain ⟨nb, hnb⟩ : ∃ n, n = bd.length := ⟨_, rfl⟩
      replace hbv : bodyV kb bd = .slice A0 nb c0 := by rw [hnb]; exact hbv
      have c0' : wr.cell? ⟨ob, i * 10, none⟩ = some (.int .i64 k) := hc 0 (by decide) _ rfl
      have c1 : wr.cell? ⟨ob, i * 10 + 1, none⟩ = some (.int .i64 (b : Int)) := hc 1 (by decide) _ rfl
      have c2 : wr.cell? ⟨ob, i * 10 + 2, none⟩ = some (.slice A0 nb c0) := by rw [← hbv]; exact hc 2 (by decide) _ rfl
      have c3 : wr.cell? ⟨ob, i * 10 + 3, none⟩ = some (.int .i64 0) := hc 3 (by decide) _ rfl
      have c4 : wr.cell? ⟨ob, i * 10 + 4, none⟩ = some (.int .i64 0) := hc 4 (by decide) _ rfl
      have c5 : wr.cell? ⟨ob, i * 10 + 5, none⟩ = some (.int .i64 0) := hc 5 (by decide) _ rfl
      have c6 : wr.cell? ⟨ob, i * 10 + 6, none⟩ = some (.int .i64 0) := hc 6 (by decide) _ rfl
      have c7 : wr.cell? ⟨ob, i * 10 + 7, none⟩ = some (.int .i64 0) := hc 7 (by decide) _ rfl
      have c8 : wr.cell? ⟨ob, i * 10 + 8, none⟩ = some (.slice none 0 0) := hc 8 (by decide) _ rfl
      have c9 : wr.cell? ⟨ob, i * 10 + 9, none⟩ = some (.int .i64 now) := hc 9 (by decide) _ rfl
      have hb2 : ((b : Int) % 2).toNat = b := by have := hal.2.1; simp only at this; omega
      have HDo : Hid (Calls Try.prog 8 #[.pointer (some ⟨w.heap.size, 0, none⟩), .agg #[.int .i64 k, .int .i64 (b : Int), .slice A0 nb c0, .int .i64 0, .int .i64 0, .int .i64 0, .int .i64 0, .int .i64 0, .slice none 0 0, .int .i64 now]] wr (DoneP w.heap.size w.heap.size b i (XL i) k now bd wr)) := Lib.hid (by
        have := do_any H.out.bun (by omega) k (b : Int) now (by have := hal.2.1; simp only at this; omega) (by have := hal.2.2; simp only at this; omega) A0 bd c0 hbd (by rcases hal.1 with h | h <;> simp only at h <;> rw [h] <;> decide) (.int .i64 0) (.int .i64 0) (.int .i64 0) (.int .i64 0) (.int .i64 0) (.slice none 0 0)
        rw [hb2] at this
        rw [hnb]; exact this)
      clear hal hbv hbd hc hnb ho hb2
      go_wp2_with (go_at_call 8; refine Calls.mono HDo.out ?_; rintro e w5 ⟨rfl, hb5, hl5, hk5⟩; have HD5 := Lib.hid (And.intro hb5 (And.intro hl5 hk5)); clear hb5 hl5 hk5)
      go_roundw
      case rel =>
        refine ⟨i + 1, by omega, by go_num, Lib.hid (H.out.next ?_ HD5.out.2.1 HD5.out.2.2)⟩
        rw [HXs.out]; exact HD5.out.1
      case measure => simp [intOf]; omega
    · obtain rfl : i = 11 := by omega
      obtain ⟨P, F, G, Q, S, C, hp⟩ := H.out.bun.pair
      obtain ⟨x1, x2, x3, x4⟩ := xl_end
      have p0 := (hp.cell (show 0 < 2 by decide)).1
      have p1 := (hp.cell (show 1 < 2 by decide)).1
      have p9 := (hp.cell (show 1 < 2 by decide)).2.2.2.2.1
      obtain ⟨Ac, cc, hec, hc1, hc2, hrc⟩ := (hp.c 1 (by decide)).rows
      rw [x3] at hec hc1 hrc
      obtain ⟨gb, ab, capb, rfl, g0, hyb⟩ := hrc 0 (by decide)
      rw [hec] at p9
      replace hyb : Byt wr ab [104, 105] := hyb
      replace g0 : wr.cell? ⟨gb, 0, none⟩ = some (.slice ab 2 capb) := g0
      replace p9 : wr.cell? ⟨w.heap.size, 9, none⟩ = some (.slice (some ⟨gb, 0, none⟩) 1 cc) := p9
      have HYb := Lib.hid hyb
      obtain ⟨A1, d1, vs1, bm1, D1, hS0⟩ := hp.ses 0 (by decide)
      obtain ⟨A2, d2, vs2, bm2, D2, hS1⟩ := hp.ses 1 (by decide)
      have HR0 := Lib.hid (ready_any hS0)
      have HR1 := Lib.hid (ready_any hS1)
      have HP0 := Lib.hid (pending_any hS0)
      rw [x1] at HR0
      rw [x2] at HR1
      rw [x4] at HP0
      clear hp hec hrc hS0 hS1 hyb x1 x2 x3 x4 hc1 hc2
      go_wp2_with (first
        | (go_at_call 13; refine Calls.mono (by with_reducible exact HR0.out) ?_; rintro e w5 ⟨rfl, rfl⟩)
        | (go_at_call 13; refine Calls.mono (by with_reducible exact HR1.out) ?_; rintro e w5 ⟨rfl, rfl⟩)
        | (go_at_call 15; refine Calls.mono (by with_reducible exact HP0.out) ?_; rintro e w5 ⟨rfl, rfl⟩)
        | (rw [HCv.out _ ab capb HYb.out]))
      go_ret
      exact ⟨rfl, H.out.below⟩
end Go.Proofs.Ytihkjdoajfjnpaa
