/- A pair of sessions, in plain words: whatever the net does, what comes is what was sent. No function of the program. -/
import Derived.Test.YtihkjdoajfjnpaaSesA
set_option linter.unusedSimpArgs false
set_option linter.unusedVariables false
namespace Go.Ses
/-- A side: its session, its boot, what is on its way to it, what it sent, what came, and the boot that it knows. -/
structure Side where
  ss : Ss
  boot : Int
  q : List Ev
  sent : List Bytes
  came : List Bytes
  fr : Int
def inS (x : Side) (e : Ev) : Side :=
  { x with ss := (onS x.ss e).2, sent := if (onS x.ss e).1.2.1 then [] else x.sent, came := (if (onS x.ss e).1.2.1 then [] else x.came) ++ (onS x.ss e).1.1, fr := if (onS x.ss e).1.2.1 then e.mine else x.fr }
def atQ (now : Int) (n : Nat) : Nat := (now % (n : Int)).toNat
def outQ (x : Side) (i : Nat) : Side := { x with q := x.q.take i ++ x.q.drop (i + 1) }
def doS (k now : Int) (body : Bytes) (x y : Side) : Side × Side :=
  if k = 1 then ({ x with ss := (sendS x.ss body).2, sent := if (sendS x.ss body).1 = 0 then x.sent ++ [body] else x.sent }, y)
  else if k = 3 then ({ x with ss := tickS x.ss now }, { y with q := y.q ++ tickE x.ss now })
  else if k = 4 ∨ k = 5 ∨ k = 6 then
    match x.q[atQ now x.q.length]? with
    | none => (x, y)
    | some e => if k = 6 then (outQ x (atQ now x.q.length), y) else if k = 5 then (inS x e, y) else (inS (outQ x (atQ now x.q.length)) e, y)
  else if k = 7 then
    if 50 < x.boot then (x, y) else ({ x with boot := x.boot + 1, ss := newS (x.boot + 1), sent := [], came := [], fr := 0 }, y)
  else (x, y)
def Right (x y : Side) : Prop := x.fr = y.boot → y.fr = x.boot → ∀ (k : Nat) b, x.came[k]? = some b → y.sent[k]? = some b
/-- What holds of a side that takes, and the other one. -/
structure Half (x y : Side) : Prop where
  ok : Ok x.ss
  mine : x.ss.mine = x.boot
  boot : 1 ≤ x.boot ∧ x.boot ≤ 51
  fr : x.fr = x.ss.l.yours
  yours : x.ss.l.yours ≤ y.boot
  sent : (x.sent.length : Int) = x.ss.l.gone + x.ss.l.out.length
  outs : ∀ (i : Nat) b, x.ss.l.out[i]? = some b → x.sent[x.ss.l.gone.toNat + i]? = some b
  came : (x.came.length : Int) = x.ss.l.wanted - 1
  fits : ∀ e ∈ x.q, fitsB e = true ∧ e.mine ≤ y.boot
  old : ∀ e ∈ x.q, e.mine = y.boot → e.yours ≤ y.ss.l.yours ∧ (e.kind = 2 → e.yours = y.ss.l.yours → y.sent[(e.seq - 1).toNat]? = some e.body)
  same : x.ss.l.yours = y.boot → y.ss.l.yours = x.boot → (∀ (k : Nat) b, x.came[k]? = some b → y.sent[k]? = some b) ∧ ∀ q b, x.ss.l.inn q = some b → y.sent[(q - 1).toNat]? = some b
  none : x.ss.l.yours = y.boot → y.ss.l.yours ≠ x.boot → x.came = [] ∧ ∀ q, x.ss.l.inn q = none
def Inv (x y : Side) : Prop := Half x y ∧ Half y x
theorem Inv.right {x y : Side} (h : Inv x y) : Right x y := fun h1 h2 k b hk =>
  (h.1.same (h.1.fr ▸ h1) (h.2.fr ▸ h2)).1 k b hk
theorem snoc_some {l : List Bytes} {k : Nat} {b : Bytes} (m : List Bytes) (h : l[k]? = some b) : (l ++ m)[k]? = some b := by
  rw [List.getElem?_append_left (List.getElem?_eq_some_iff.1 h).1]; exact h
theorem sendS_l (s : Ss) (b : Bytes) : (sendS s b).2.mine = s.mine ∧ (sendS s b).2.l.yours = s.l.yours ∧ (sendS s b).2.l.gone = s.l.gone ∧ (sendS s b).2.l.wanted = s.l.wanted ∧ (sendS s b).2.l.inn = s.l.inn ∧ (sendS s b).2.l.puts = s.l.puts ∧ (sendS s b).2.l.out = (if (sendS s b).1 = 0 then s.l.out ++ [b] else s.l.out) := by
  unfold sendS
  split
  · exact ⟨rfl, rfl, rfl, rfl, rfl, rfl, rfl⟩
  · split
    · exact ⟨rfl, rfl, rfl, rfl, rfl, rfl, rfl⟩
    · split <;> exact ⟨rfl, rfl, rfl, rfl, rfl, rfl, rfl⟩
theorem inv_send {x y : Side} (h : Inv x y) (b : Bytes) : Inv { x with ss := (sendS x.ss b).2, sent := if (sendS x.ss b).1 = 0 then x.sent ++ [b] else x.sent } y := by
  obtain ⟨h1, h2⟩ := h
  obtain ⟨e1, e2, e3, e4, e5, e6, e7⟩ := sendS_l x.ss b
  have hs : ∀ (k : Nat) c, x.sent[k]? = some c → (if (sendS x.ss b).1 = 0 then x.sent ++ [b] else x.sent)[k]? = some c := fun k c hk => by
    split
    · exact snoc_some _ hk
    · exact hk
  refine ⟨⟨ok_send h1.ok b, e1.trans h1.mine, h1.boot, h1.fr.trans e2.symm, by show (sendS x.ss b).2.l.yours ≤ _; rw [e2]; exact h1.yours, ?_, fun i c hi => ?_, ?_, h1.fits, h1.old, fun a1 a2 => ?_, fun a1 a2 => ?_⟩,
    ⟨h2.ok, h2.mine, h2.boot, h2.fr, h2.yours, h2.sent, h2.outs, h2.came, h2.fits, fun e he hm => ?_, fun a1 a2 => ?_, fun a1 a2 => ?_⟩⟩
  · show ((if (sendS x.ss b).1 = 0 then x.sent ++ [b] else x.sent).length : Int) = (sendS x.ss b).2.l.gone + (sendS x.ss b).2.l.out.length
    rw [e3, e7]
    have := h1.sent
    split
    · rw [List.length_append, List.length_append, List.length_singleton]; omega
    · exact this
  · show (if (sendS x.ss b).1 = 0 then x.sent ++ [b] else x.sent)[(sendS x.ss b).2.l.gone.toNat + i]? = some c
    have hi' : (sendS x.ss b).2.l.out[i]? = some c := hi
    rw [e3]
    rw [e7] at hi'
    split at hi'
    · rename_i hz
      rw [if_pos hz]
      have hsent := h1.sent
      have hg := h1.ok.gone.1
      by_cases hl : i < x.ss.l.out.length
      · rw [List.getElem?_append_left hl] at hi'
        exact snoc_some _ (h1.outs i c hi')
      · have hlt := (List.getElem?_eq_some_iff.1 hi').1
        rw [List.length_append, List.length_singleton] at hlt
        obtain rfl : i = x.ss.l.out.length := by omega
        rw [List.getElem?_append_right (Nat.le_refl _), Nat.sub_self] at hi'
        rw [List.getElem?_append_right (by omega), show x.ss.l.gone.toNat + x.ss.l.out.length - x.sent.length = 0 by omega]
        exact hi'
    · rename_i hz
      rw [if_neg hz]
      exact h1.outs i c hi'
  · show (x.came.length : Int) = (sendS x.ss b).2.l.wanted - 1
    rw [e4]; exact h1.came
  · obtain ⟨b1, b2⟩ := h1.same (e2.symm.trans a1) a2
    exact ⟨b1, fun q c hq => b2 q c (by rw [← e5]; exact hq)⟩
  · obtain ⟨b1, b2⟩ := h1.none (e2.symm.trans a1) a2
    exact ⟨b1, fun q => (congrFun e5 q).trans (b2 q)⟩
  · obtain ⟨b1, b2⟩ := h2.old e he hm
    exact ⟨Int.le_trans b1 (Int.le_of_eq e2.symm), fun hk hy => hs _ _ (b2 hk (hy.trans e2))⟩
  · obtain ⟨b1, b2⟩ := h2.same a1 (e2.symm.trans a2)
    exact ⟨fun k c hk => hs _ _ (b1 k c hk), fun q c hq => hs _ _ (b2 q c hq)⟩
  · exact h2.none a1 (fun e => a2 (e2.trans e))
theorem tick_l (s : Ss) (now : Int) : (tickS s now).mine = s.mine ∧ (tickS s now).l.yours = s.l.yours ∧ (tickS s now).l.gone = s.l.gone ∧ (tickS s now).l.wanted = s.l.wanted ∧ (tickS s now).l.inn = s.l.inn ∧ (tickS s now).l.puts = s.l.puts ∧ (tickS s now).l.out = s.l.out := by
  have a := helloL_out now s.l
  unfold tickS
  refine ⟨rfl, ?_⟩
  split
  · have b := actL_out now (helloL now s.l)
    have c := againL_out now (actL now (helloL now s.l))
    have d := firstL_out now (againL now (actL now (helloL now s.l)))
    refine ⟨?_, ?_, ?_, ?_, ?_, ?_⟩
    · exact d.2.2.2.2.1.trans (c.2.2.2.2.1.trans (b.2.2.2.2.1.trans a.2.2.2.2.1))
    · exact d.2.2.1.trans (c.2.2.1.trans (b.2.2.1.trans a.2.2.1))
    · exact d.2.2.2.1.trans (c.2.2.2.1.trans (b.2.2.2.1.trans a.2.2.2.1))
    · exact d.2.2.2.2.2.2.1.trans (c.2.2.2.2.2.2.1.trans (b.2.2.2.2.2.2.1.trans a.2.2.2.2.2.2.1))
    · exact d.2.2.2.2.2.2.2.2.trans (c.2.2.2.2.2.2.2.2.trans (b.2.2.2.2.2.2.2.2.trans a.2.2.2.2.2.2.2.2))
    · exact d.1.trans (c.1.trans (b.1.trans a.1))
  · exact ⟨a.2.2.2.2.1, a.2.2.1, a.2.2.2.1, a.2.2.2.2.2.2.1, a.2.2.2.2.2.2.2.2, a.1⟩
theorem dataE_same (m : Int) {l l2 : Link} (h1 : l2.out = l.out) (h2 : l2.gone = l.gone) (h3 : l2.wanted = l.wanted) (h4 : l2.yours = l.yours) (i : Nat) : dataE m l2 i = dataE m l i := by unfold dataE; rw [h1, h2, h3, h4]
theorem mem_someE {m : Int} {l : Link} {fr to : Nat} {e : Ev} (h : e ∈ someE m l fr to) : ∃ i, i < to ∧ e = dataE m l i := by
  unfold someE at h
  obtain ⟨i, hi, rfl⟩ := List.mem_map.1 h
  rw [List.mem_range'_1] at hi
  exact ⟨i, by omega, rfl⟩
theorem mem_outE {m now : Int} {l : Link} (h0 : 0 ≤ l.sent ∧ l.sent ≤ l.out.length) {e : Ev} (h : e ∈ outE m now l) : ∃ i, i < l.out.length ∧ e = dataE m l i := by
  have b := actL_out now l
  unfold outE at h
  have key : ∀ i, dataE m (actL now l) i = dataE m l i := dataE_same m b.1 b.2.2.1 b.2.2.2.1 b.2.2.2.2.1
  rcases List.mem_append.1 h with h | h
  · unfold againE at h
    split at h
    · obtain ⟨i, hi, rfl⟩ := mem_someE h
      refine ⟨i, ?_, key i⟩
      rw [b.2.1] at hi; omega
    · cases h
  · obtain ⟨i, hi, rfl⟩ := mem_someE h
    exact ⟨i, hi, key i⟩
theorem fits_mk {e : Ev} (h1 : 0 ≤ e.yours ∧ e.yours ≤ 2147483647) (h2 : 0 ≤ e.seq ∧ e.seq ≤ 2147483647) (h3 : 0 ≤ e.ack ∧ e.ack ≤ 2147483647) (h4 : 1 ≤ e.mine ∧ e.mine ≤ 2147483647) (h5 : e.body.length ≤ 32768)
    (h6 : (e.kind = 1 ∧ e.seq = 0 ∧ e.body.length = 0 ∧ e.ack = 0) ∨ (e.kind = 2 ∧ 0 < e.seq ∧ 0 < e.yours) ∨ (e.kind = 3 ∧ e.seq = 0 ∧ e.body.length = 0)) : fitsB e = true := by
  unfold fitsB
  rw [decide_eq_true h1, decide_eq_true h2, decide_eq_true h3, decide_eq_true h4, decide_eq_true h5]
  rcases h6 with ⟨k, a, b, c⟩ | ⟨k, a, b⟩ | ⟨k, a, b⟩
  · rw [if_pos k, decide_eq_true ⟨a, b, c⟩]; rfl
  · rw [if_neg (by omega), if_pos k, decide_eq_true ⟨a, b⟩]; rfl
  · rw [if_neg (by omega), if_neg (by omega), if_pos k, decide_eq_true ⟨a, b⟩]; rfl
theorem mem_tick {s : Ss} (h : Ok s) {now : Int} {e : Ev} (he : e ∈ tickE s now) : fitsB e = true ∧ e.mine = s.mine ∧ e.yours = s.l.yours ∧ (e.kind = 2 → ∃ i, i < s.l.out.length ∧ e.seq = s.l.gone + 1 + i ∧ e.body = s.l.out.getD i []) := by
  have a := helloL_out now s.l
  unfold tickE at he
  rcases List.mem_append.1 he with he | he
  · unfold helloE at he
    split at he
    · rw [List.mem_singleton.1 he]
      exact ⟨fits_mk h.yours ⟨by show (0 : Int) ≤ 0; omega, by show (0 : Int) ≤ _; omega⟩ ⟨by show (0 : Int) ≤ 0; omega, by show (0 : Int) ≤ _; omega⟩ h.mine (by show 0 ≤ _; omega) (.inl ⟨rfl, rfl, rfl, rfl⟩), rfl, rfl, fun hk => (by cases hk)⟩
    · cases he
  · split at he
    · rename_i hk
      have hy : 1 ≤ s.l.yours := h.knows (by rw [← a.2.2.2.2.2.2.2.1]; exact hk)
      have hw := h.wanted
      rcases List.mem_append.1 he with he | he
      · obtain ⟨i, hi, rfl⟩ := mem_outE (by rw [a.1, a.2.1]; exact h.sent) he
        rw [a.1] at hi
        rw [dataE_same s.mine a.1 a.2.2.1 a.2.2.2.1 a.2.2.2.2.1 i]
        have hg := h.gone
        refine ⟨fits_mk h.yours ⟨?_, ?_⟩ ⟨?_, ?_⟩ h.mine ?_ (.inr (.inl ⟨rfl, ?_, ?_⟩)), rfl, rfl, fun _ => ⟨i, hi, rfl, rfl⟩⟩
        · show 0 ≤ s.l.gone + 1 + i; omega
        · show s.l.gone + 1 + i ≤ _; omega
        · show 0 ≤ s.l.wanted - 1; omega
        · show s.l.wanted - 1 ≤ _; omega
        · show (s.l.out.getD i []).length ≤ _
          rw [List.getD_eq_getElem?_getD, List.getElem?_eq_getElem hi]
          exact h.small _ (List.getElem_mem _)
        · show 0 < s.l.gone + 1 + i; omega
        · show 0 < s.l.yours; omega
      · unfold ackE at he
        split at he
        · rw [List.mem_singleton.1 he]
          have d : (outL s.mine now (helloL now s.l)).wanted = s.l.wanted ∧ (outL s.mine now (helloL now s.l)).yours = s.l.yours := by
            have b := actL_out now (helloL now s.l)
            have c := againL_out now (actL now (helloL now s.l))
            have d := firstL_out now (againL now (actL now (helloL now s.l)))
            exact ⟨d.2.2.2.1.trans (c.2.2.2.1.trans (b.2.2.2.1.trans a.2.2.2.1)), d.2.2.2.2.1.trans (c.2.2.2.2.1.trans (b.2.2.2.2.1.trans a.2.2.2.2.1))⟩
          rw [d.1, d.2]
          refine ⟨fits_mk h.yours ⟨?_, ?_⟩ ⟨?_, ?_⟩ h.mine ?_ (.inr (.inr ⟨rfl, rfl, rfl⟩)), rfl, rfl, fun hk => (by cases hk)⟩
          · show (0 : Int) ≤ 0; omega
          · show (0 : Int) ≤ _; omega
          · show 0 ≤ s.l.wanted - 1; omega
          · show s.l.wanted - 1 ≤ _; omega
          · show 0 ≤ _; omega
        · cases he
    · cases he
theorem inv_tick {x y : Side} (h : Inv x y) (now : Int) : Inv { x with ss := tickS x.ss now } { y with q := y.q ++ tickE x.ss now } := by
  obtain ⟨h1, h2⟩ := h
  obtain ⟨e1, e2, e3, e4, e5, e6, e7⟩ := tick_l x.ss now
  refine ⟨⟨ok_tick h1.ok now, e1.trans h1.mine, h1.boot, h1.fr.trans e2.symm, by show (tickS x.ss now).l.yours ≤ _; rw [e2]; exact h1.yours, ?_, fun i c hi => ?_, ?_, h1.fits, h1.old, fun a1 a2 => ?_, fun a1 a2 => ?_⟩,
    ⟨h2.ok, h2.mine, h2.boot, h2.fr, h2.yours, h2.sent, h2.outs, h2.came, fun e he => ?_, fun e he hm => ?_, fun a1 a2 => ?_, fun a1 a2 => ?_⟩⟩
  · show (x.sent.length : Int) = (tickS x.ss now).l.gone + (tickS x.ss now).l.out.length
    rw [e3, e7]; exact h1.sent
  · show x.sent[(tickS x.ss now).l.gone.toNat + i]? = some c
    rw [e3]
    exact h1.outs i c (by rw [← e7]; exact hi)
  · show (x.came.length : Int) = (tickS x.ss now).l.wanted - 1
    rw [e4]; exact h1.came
  · obtain ⟨b1, b2⟩ := h1.same (e2.symm.trans a1) a2
    exact ⟨b1, fun q c hq => b2 q c (by rw [← e5]; exact hq)⟩
  · obtain ⟨b1, b2⟩ := h1.none (e2.symm.trans a1) a2
    exact ⟨b1, fun q => (congrFun e5 q).trans (b2 q)⟩
  · rcases List.mem_append.1 he with he | he
    · exact h2.fits e he
    · obtain ⟨c1, c2, _⟩ := mem_tick h1.ok he
      exact ⟨c1, by show e.mine ≤ x.boot; rw [c2, h1.mine]; omega⟩
  · show e.yours ≤ (tickS x.ss now).l.yours ∧ (e.kind = 2 → e.yours = (tickS x.ss now).l.yours → x.sent[(e.seq - 1).toNat]? = some e.body)
    rw [e2]
    rcases List.mem_append.1 he with he | he
    · exact h2.old e he hm
    · obtain ⟨c1, c2, c3, c4⟩ := mem_tick h1.ok he
      refine ⟨Int.le_of_eq c3, fun hk _ => ?_⟩
      obtain ⟨i, hi, hq, hb⟩ := c4 hk
      have hg := h1.ok.gone.1
      rw [hq, hb, show (x.ss.l.gone + 1 + (i : Int) - 1).toNat = x.ss.l.gone.toNat + i by omega]
      apply h1.outs
      rw [List.getD_eq_getElem?_getD, List.getElem?_eq_getElem hi]; rfl
  · exact h2.same a1 (e2.symm.trans a2)
  · exact h2.none a1 (fun e => a2 (e2.trans e))
theorem inv_outQ {x y : Side} (h : Inv x y) (i : Nat) : Inv (outQ x i) y := by
  obtain ⟨h1, h2⟩ := h
  have hm : ∀ e ∈ (outQ x i).q, e ∈ x.q := fun e he => by
    rcases List.mem_append.1 he with he | he
    · exact List.mem_of_mem_take he
    · exact List.mem_of_mem_drop he
  exact ⟨⟨h1.ok, h1.mine, h1.boot, h1.fr, h1.yours, h1.sent, h1.outs, h1.came, fun e he => h1.fits e (hm e he), fun e he => h1.old e (hm e he), h1.same, h1.none⟩,
    ⟨h2.ok, h2.mine, h2.boot, h2.fr, h2.yours, h2.sent, h2.outs, h2.came, h2.fits, h2.old, h2.same, h2.none⟩⟩
theorem inv_boot {x y : Side} (h : Inv x y) (hb : ¬ 50 < x.boot) : Inv { x with boot := x.boot + 1, ss := newS (x.boot + 1), sent := [], came := [], fr := 0 } y := by
  obtain ⟨h1, h2⟩ := h
  have b1 := h1.boot
  have b2 := h2.boot
  refine ⟨⟨ok_new ⟨?_, ?_⟩, rfl, ⟨?_, ?_⟩, rfl, ?_, rfl, fun i c hi => (by cases hi), rfl, h1.fits, h1.old, fun a1 a2 => ?_, fun a1 a2 => ⟨rfl, fun q => rfl⟩⟩,
    ⟨h2.ok, h2.mine, h2.boot, h2.fr, ?_, h2.sent, h2.outs, h2.came, fun e he => ?_, fun e he hm => ?_, fun a1 a2 => ?_, fun a1 a2 => ?_⟩⟩
  · omega
  · omega
  · show 1 ≤ x.boot + 1; omega
  · show x.boot + 1 ≤ 51; omega
  · show (0 : Int) ≤ y.boot; omega
  · exact ⟨fun k b hk => (by cases hk), fun q b hq => (by cases hq)⟩
  · show y.ss.l.yours ≤ x.boot + 1; have := h2.yours; omega
  · obtain ⟨c1, c2⟩ := h2.fits e he
    exact ⟨c1, by show e.mine ≤ x.boot + 1; omega⟩
  · have := (h2.fits e he).2
    have hm' : e.mine = x.boot + 1 := hm
    omega
  · have := h2.yours
    have a1' : y.ss.l.yours = x.boot + 1 := a1
    omega
  · have := h2.yours
    have a1' : y.ss.l.yours = x.boot + 1 := a1
    omega
theorem letGo_l (l : Link) (u : Int) : (letGo l u).yours = l.yours ∧ (letGo l u).wanted = l.wanted ∧ (letGo l u).inn = l.inn ∧ (letGo l u).puts = l.puts ∧ (letGo l u).gone + (letGo l u).out.length = l.gone + l.out.length ∧ ∃ d : Nat, (letGo l u).gone = l.gone + d ∧ (letGo l u).out = l.out.drop d := by
  unfold letGo
  split
  · exact ⟨rfl, rfl, rfl, rfl, rfl, 0, by simp, rfl⟩
  · rename_i h1
    have h4 : ¬ u - l.gone ≤ 0 := fun e => h1 (.inl e)
    have h5 : ¬ l.next ≤ u := fun e => h1 (.inr e)
    unfold Link.next at h5
    refine ⟨rfl, rfl, rfl, rfl, ?_, (u - l.gone).toNat, ?_, rfl⟩
    · show u + ((l.out.drop (u - l.gone).toNat).length : Int) = _
      rw [List.length_drop]; omega
    · show u = _; omega
theorem takeS_l (l : Link) (q : Int) (b : Bytes) : (takeS l q b).2.yours = l.yours ∧ (takeS l q b).2.gone = l.gone ∧ (takeS l q b).2.out = l.out ∧ (takeS l q b).2.wanted = l.wanted + (takeS l q b).1.length ∧ (takeS l q b).2.puts ≤ l.puts + 1 ∧
    (∀ (k : Nat) x, (takeS l q b).1[k]? = some x → l.inn (l.wanted + k) = some x ∨ (l.wanted + k = q ∧ x = b)) ∧ (∀ j x, (takeS l q b).2.inn j = some x → l.inn j = some x ∨ (j = q ∧ x = b)) := by
  unfold takeS
  split
  · exact ⟨rfl, rfl, rfl, by simp, Nat.le_succ _, fun k x hk => (by cases hk), fun j x hj => .inl hj⟩
  · refine ⟨rfl, rfl, rfl, rfl, Nat.le_refl _, fun k x hk => putF_some (drain_at _ _ _ k x hk), fun j x hj => ?_⟩
    have hj' : without (putF l.inn q b) l.wanted (drainF (l.puts + 2) (putF l.inn q b) l.wanted).length j = some x := hj
    unfold without at hj'
    split at hj'
    · cases hj'
    · exact putF_some hj'
/-- What On makes of a session that an envelope comes to. -/
theorem onS_l {s : Ss} (e : Ev) (hf : fitsB e = true) : (onS s e).1.2.2 = 0 ∧ (onS s e).2.mine = s.mine ∧
    ((onS s e).1.2.1 = true → s.l.yours < e.mine ∧ (onS s e).2.l.yours = e.mine) ∧ ((onS s e).1.2.1 = false → (onS s e).2.l.yours = s.l.yours) ∧
    ∃ l0 : Link, (l0 = if (onS s e).1.2.1 then newL e.mine else s.l) ∧ (onS s e).2.l.gone + (onS s e).2.l.out.length = l0.gone + l0.out.length ∧ (∃ d : Nat, (onS s e).2.l.gone = l0.gone + d ∧ (onS s e).2.l.out = l0.out.drop d) ∧
      (onS s e).2.l.wanted = l0.wanted + (onS s e).1.1.length ∧ (onS s e).2.l.puts ≤ l0.puts + 1 ∧
      (∀ (k : Nat) x, (onS s e).1.1[k]? = some x → l0.inn (l0.wanted + k) = some x ∨ (l0.wanted + k = e.seq ∧ x = e.body ∧ e.kind = 2 ∧ e.yours = s.mine ∧ e.mine = (onS s e).2.l.yours)) ∧
      (∀ j x, (onS s e).2.l.inn j = some x → l0.inn j = some x ∨ (j = e.seq ∧ x = e.body ∧ e.kind = 2 ∧ e.yours = s.mine ∧ e.mine = (onS s e).2.l.yours)) := by
  unfold onS
  rw [if_neg (by simp [hf])]
  by_cases h2 : e.mine < s.l.yours
  · rw [if_pos h2]
    exact ⟨rfl, rfl, (fun h => nomatch h), fun _ => rfl, s.l, rfl, rfl, ⟨0, by simp, rfl⟩, by simp, Nat.le_succ _, fun k x hk => (by cases hk), fun j x hj => .inl hj⟩
  · rw [if_neg h2]
    have hl0 : ∃ l0 : Link, (l0 = if decide (s.l.yours < e.mine) = true then newL e.mine else s.l) ∧ (freshL s e).gone = l0.gone ∧ (freshL s e).out = l0.out ∧ (freshL s e).wanted = l0.wanted ∧ (freshL s e).inn = l0.inn ∧ (freshL s e).puts = l0.puts ∧ (freshL s e).yours = e.mine := by
      refine ⟨_, rfl, ?_⟩
      unfold freshL
      by_cases h3 : s.l.yours < e.mine
      · rw [if_pos h3, if_pos (decide_eq_true h3)]; exact ⟨rfl, rfl, rfl, rfl, rfl, rfl⟩
      · rw [if_neg h3, if_neg (by simpa using h3)]; exact ⟨rfl, rfl, rfl, rfl, rfl, by omega⟩
    obtain ⟨l0, i0, i1, i2, i3, i4, i5, i6⟩ := hl0
    have hy : ∀ b : Bool, b = decide (s.l.yours < e.mine) → (b = true → s.l.yours < e.mine ∧ e.mine = e.mine) ∧ (b = false → e.mine = s.l.yours) := fun b hb => by
      subst hb
      exact ⟨fun h => ⟨by simpa using h, rfl⟩, fun h => by simp at h; omega⟩
    obtain ⟨hy1, hy2⟩ := hy _ rfl
    split
    · exact ⟨rfl, rfl, fun h => ⟨(hy1 h).1, i6⟩, fun h => i6.trans (hy2 h), l0, i0, by show (freshL s e).gone + ((freshL s e).out.length : Int) = _; rw [i1, i2], ⟨0, by show (freshL s e).gone = _; rw [i1]; simp, i2⟩, by show (freshL s e).wanted = _; rw [i3]; simp, by show (freshL s e).puts ≤ _; rw [i5]; omega, fun k x hk => (by cases hk), fun j x hj => .inl (by rw [← i4]; exact hj)⟩
    · rename_i hyo
      have hyo' : e.yours = s.mine := by simpa using hyo
      split
      · exact ⟨rfl, rfl, fun h => ⟨(hy1 h).1, i6⟩, fun h => i6.trans (hy2 h), l0, i0, by show (freshL s e).gone + ((freshL s e).out.length : Int) = _; rw [i1, i2], ⟨0, by show (freshL s e).gone = _; rw [i1]; simp, i2⟩, by show (freshL s e).wanted = _; rw [i3]; simp, by show (freshL s e).puts ≤ _; rw [i5]; omega, fun k x hk => (by cases hk), fun j x hj => .inl (by rw [← i4]; exact hj)⟩
      · rename_i hk1
        obtain ⟨g1, g2, g3, g4, g5, d, g6, g7⟩ := letGo_l { freshL s e with knows := true } e.ack
        split
        · exact ⟨rfl, rfl, fun h => ⟨(hy1 h).1, g1.trans i6⟩, fun h => (g1.trans i6).trans (hy2 h), l0, i0, by rw [← i1, ← i2]; exact g5, ⟨d, by rw [← i1]; exact g6, by rw [← i2]; exact g7⟩, by rw [← i3]; show (letGo { freshL s e with knows := true } e.ack).wanted = _; rw [g2]; simp, by rw [← i5]; show (letGo { freshL s e with knows := true } e.ack).puts ≤ _; rw [g4]; show (freshL s e).puts ≤ _; omega, fun k x hk => (by cases hk), fun j x hj => .inl (by rw [← i4]; have := congrFun g3 j; exact this.symm.trans hj)⟩
        · rename_i hk3
          have hkind : e.kind = 2 := by have := (fits_parts hf).2.2.2.2.2.1; omega
          obtain ⟨t1, t2, t3, t4, t5, t6, t7⟩ := takeS_l (letGo { freshL s e with knows := true } e.ack) e.seq e.body
          have hyy : (takeS (letGo { freshL s e with knows := true } e.ack) e.seq e.body).2.yours = e.mine := t1.trans (g1.trans i6)
          refine ⟨rfl, rfl, fun h => ⟨(hy1 h).1, hyy⟩, fun h => hyy.trans (hy2 h), l0, i0, ?_, ⟨d, ?_, ?_⟩, ?_, ?_, fun k x hk => ?_, fun j x hj => ?_⟩
          · show (takeS (letGo { freshL s e with knows := true } e.ack) e.seq e.body).2.gone + ((takeS (letGo { freshL s e with knows := true } e.ack) e.seq e.body).2.out.length : Int) = _
            rw [t2, t3, g5]; show (freshL s e).gone + ((freshL s e).out.length : Int) = _; rw [i1, i2]
          · rw [← i1]; exact t2.trans g6
          · rw [← i2]; exact t3.trans g7
          · rw [← i3]; show (takeS (letGo { freshL s e with knows := true } e.ack) e.seq e.body).2.wanted = _; rw [t4, g2]
          · rw [← i5]; show (takeS (letGo { freshL s e with knows := true } e.ack) e.seq e.body).2.puts ≤ _; rw [g4] at t5; exact t5
          · rcases t6 k x hk with h | ⟨h, h'⟩
            · exact .inl (by rw [← i4, ← i3]; rw [g2, g3] at h; exact h)
            · exact .inr ⟨by rw [← i3]; rw [g2] at h; exact h, h', hkind, hyo', hyy.symm⟩
          · rcases t7 j x hj with h | ⟨h, h'⟩
            · exact .inl (by rw [← i4]; rw [g3] at h; exact h)
            · exact .inr ⟨h, h', hkind, hyo', hyy.symm⟩
theorem inv_in {x y : Side} (h : Inv x y) {e : Ev} (he : e ∈ x.q) : Inv (inS x e) y := by
  obtain ⟨h1, h2⟩ := h
  obtain ⟨hf, hm⟩ := h1.fits e he
  have hold := h1.old e he
  have hok := ok_on h1.ok e
  obtain ⟨o1, o2, o3, o4, l0, o5, o6, ⟨d, o7, o8⟩, o9, o10, o11, o12⟩ := onS_l (s := x.ss) e hf
  have hy2 := h2.yours
  obtain ⟨R, hR⟩ : ∃ R, R = onS x.ss e := ⟨_, rfl⟩
  unfold inS
  rw [← hR] at o1 o2 o3 o4 o5 o6 o7 o8 o9 o10 o11 o12 hok ⊢
  clear hR
  -- what comes in is what the other one sent
  have hnew : ∀ (q : Int) b, (q = e.seq ∧ b = e.body ∧ e.kind = 2 ∧ e.yours = x.ss.mine ∧ e.mine = R.2.l.yours) → R.2.l.yours = y.boot → y.ss.l.yours = x.boot ∧ y.sent[(q - 1).toNat]? = some b := fun q b ⟨c1, c2, c3, c4, c5⟩ hb => by
    obtain ⟨p1, p2⟩ := hold (c5.trans hb)
    rw [h1.mine] at c4
    have : y.ss.l.yours = x.boot := by omega
    exact ⟨this, by rw [c1, c2]; exact p2 c3 (by rw [c4, this])⟩
  have hw0 : 1 ≤ l0.wanted ∧ (l0.wanted - 1 = ((if R.1.2.1 then [] else x.came).length : Int)) := by
    rw [o5]
    split
    · exact ⟨by simp [newL], by simp [newL]⟩
    · exact ⟨h1.ok.wanted.1, by have := h1.came; omega⟩
  refine ⟨⟨hok, o2.trans h1.mine, h1.boot, ?_, ?_, ?_, fun i c hi => ?_, ?_, h1.fits, h1.old, fun a1 a2 => ?_, fun a1 a2 => ?_⟩,
    ⟨h2.ok, h2.mine, h2.boot, h2.fr, h2.yours, h2.sent, h2.outs, h2.came, h2.fits, fun e' he' hm' => ?_, fun a1 a2 => ?_, fun a1 a2 => ?_⟩⟩
  · show (if R.1.2.1 then e.mine else x.fr) = R.2.l.yours
    cases hb : R.1.2.1 with
    | true => rw [(o3 hb).2]; rfl
    | false => rw [o4 hb]; exact h1.fr
  · show R.2.l.yours ≤ y.boot
    cases hb : R.1.2.1 with
    | true => rw [(o3 hb).2]; exact hm
    | false => rw [o4 hb]; exact h1.yours
  · show ((if R.1.2.1 then [] else x.sent).length : Int) = R.2.l.gone + R.2.l.out.length
    rw [o6, o5]
    split
    · simp [newL]
    · exact h1.sent
  · show (if R.1.2.1 then [] else x.sent)[R.2.l.gone.toNat + i]? = some c
    have hi' : R.2.l.out[i]? = some c := hi
    rw [o8, List.getElem?_drop, o5] at hi'
    have hg := h1.ok.gone.1
    rw [o7, o5]
    split at hi'
    · simp [newL] at hi'
    · rename_i hb
      rw [if_neg hb, if_neg hb, show (x.ss.l.gone + (d : Int)).toNat + i = x.ss.l.gone.toNat + (d + i) by omega]
      exact h1.outs _ _ hi'
  · show (((if R.1.2.1 then [] else x.came) ++ R.1.1).length : Int) = R.2.l.wanted - 1
    rw [o9, List.length_append]
    have := hw0.2
    omega
  · -- the same
    have a1' : R.2.l.yours = y.boot := a1
    have a2' : y.ss.l.yours = x.boot := a2
    have hin : (∀ (k : Nat) b, (if R.1.2.1 then [] else x.came)[k]? = some b → y.sent[k]? = some b) ∧ ∀ q b, l0.inn q = some b → y.sent[(q - 1).toNat]? = some b := by
      rw [o5]
      split
      · exact ⟨fun k b hk => (by cases hk), fun q b hq => (by cases hq)⟩
      · rename_i hb
        exact h1.same ((o4 (by simpa using hb)).symm.trans a1') a2'
    refine ⟨fun k b hk => ?_, fun q b hq => ?_⟩
    · have hk' : ((if R.1.2.1 then [] else x.came) ++ R.1.1)[k]? = some b := hk
      obtain ⟨C, hC⟩ : ∃ C, C = (if R.1.2.1 then [] else x.came) := ⟨_, rfl⟩
      rw [← hC] at hk' hin hw0
      by_cases hl : k < C.length
      · rw [List.getElem?_append_left hl] at hk'; exact hin.1 k b hk'
      · rw [List.getElem?_append_right (by omega)] at hk'
        have hwk : (l0.wanted + ((k - C.length : Nat) : Int) - 1).toNat = k := by have := hw0.2; omega
        rcases o11 _ _ hk' with h | h
        · have := hin.2 _ _ h
          rwa [hwk] at this
        · have := (hnew _ _ h a1').2
          rwa [hwk] at this
    · rcases o12 q b hq with h | h
      · exact hin.2 q b h
      · exact (hnew _ _ h a1').2
  · -- nothing
    have a1' : R.2.l.yours = y.boot := a1
    have a2' : y.ss.l.yours ≠ x.boot := a2
    have hin : (if R.1.2.1 then [] else x.came) = [] ∧ ∀ q, l0.inn q = none := by
      rw [o5]
      split
      · exact ⟨rfl, fun q => rfl⟩
      · rename_i hb
        exact h1.none ((o4 (by simpa using hb)).symm.trans a1') a2'
    have hbs : R.1.1 = [] := by
      cases hb : R.1.1 with
      | nil => rfl
      | cons b bs =>
        rcases o11 0 b (by rw [hb]; rfl) with h | h
        · rw [hin.2] at h; cases h
        · exact absurd (hnew _ _ h a1').1 a2'
    refine ⟨?_, fun q => ?_⟩
    · show (if R.1.2.1 then [] else x.came) ++ R.1.1 = []
      rw [hin.1, hbs]; rfl
    · show R.2.l.inn q = none
      cases hq : R.2.l.inn q with
      | none => rfl
      | some b =>
        rcases o12 q b hq with h | h
        · rw [hin.2] at h; cases h
        · exact absurd (hnew _ _ h a1').1 a2'
  · show e'.yours ≤ R.2.l.yours ∧ (e'.kind = 2 → e'.yours = R.2.l.yours → (if R.1.2.1 then [] else x.sent)[(e'.seq - 1).toNat]? = some e'.body)
    obtain ⟨p1, p2⟩ := h2.old e' he' hm'
    cases hb : R.1.2.1 with
    | true =>
      obtain ⟨c1, c2⟩ := o3 hb
      rw [c2]
      exact ⟨by omega, fun _ h => by omega⟩
    | false =>
      rw [o4 hb]
      exact ⟨p1, p2⟩
  · have a2' : R.2.l.yours = y.boot := a2
    cases hb : R.1.2.1 with
    | true =>
      obtain ⟨c1, c2⟩ := o3 hb
      obtain ⟨d1, d2⟩ := h2.none a1 (by show x.ss.l.yours ≠ y.boot; omega)
      refine ⟨fun k b hk => ?_, fun q b hq => ?_⟩
      · rw [d1] at hk; cases hk
      · rw [d2] at hq; cases hq
    | false =>
      exact h2.same a1 ((o4 hb).symm.trans a2')
  · have a2' : R.2.l.yours ≠ y.boot := a2
    cases hb : R.1.2.1 with
    | true =>
      obtain ⟨c1, c2⟩ := o3 hb
      exact h2.none a1 (by show x.ss.l.yours ≠ y.boot; omega)
    | false => exact h2.none a1 (fun e => a2' ((o4 hb).trans e))
theorem inv_do {x y : Side} (h : Inv x y) (k now : Int) (b : Bytes) : Inv (doS k now b x y).1 (doS k now b x y).2 := by
  unfold doS
  split
  · exact inv_send h b
  · split
    · exact inv_tick h now
    · split
      · split
        · exact h
        · rename_i e he
          have hm := List.mem_of_getElem? he
          split
          · exact inv_outQ h _
          · split
            · exact inv_in h hm
            · have := inv_in (e := e) h hm
              have h3 := inv_outQ this (atQ now x.q.length)
              exact h3
      · split
        · split
          · exact h
          · rename_i hb; exact inv_boot h hb
        · exact h
def newSide : Side := ⟨newS 1, 1, [], [], [], 0⟩
theorem inv_new : Inv newSide newSide := by
  have h : Half newSide newSide := ⟨ok_new ⟨by omega, by omega⟩, rfl, ⟨by decide, by decide⟩, rfl, by decide, rfl, fun i c hi => (by cases hi), rfl, fun e he => (by cases he), fun e he => (by cases he), fun a => (by cases a), fun a => (by cases a)⟩
  exact ⟨h, h⟩
end Go.Ses
