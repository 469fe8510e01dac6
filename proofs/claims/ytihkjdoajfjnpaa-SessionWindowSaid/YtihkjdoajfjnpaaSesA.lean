/- Sessions, in plain words: what each call makes of a session, and of a pair of them. No function of the program. -/
set_option linter.unusedSimpArgs false
set_option linter.unusedVariables false
namespace Go.Ses
abbrev Bytes := List UInt8
/-- An envelope. -/
structure Ev where
  kind : Int
  mine : Int
  yours : Int
  seq : Int
  ack : Int
  body : Bytes
def fitsB (v : Ev) : Bool :=
  decide (0 ≤ v.yours ∧ v.yours ≤ 2147483647) && decide (0 ≤ v.seq ∧ v.seq ≤ 2147483647) && decide (0 ≤ v.ack ∧ v.ack ≤ 2147483647) && decide (1 ≤ v.mine ∧ v.mine ≤ 2147483647) && decide (v.body.length ≤ 32768) &&
  (if v.kind = 1 then decide (v.seq = 0 ∧ v.body.length = 0 ∧ v.ack = 0) else if v.kind = 2 then decide (0 < v.seq ∧ 0 < v.yours) else if v.kind = 3 then decide (v.seq = 0 ∧ v.body.length = 0) else false)
/-- What a session has with one boot of the other one; puts: no fewer than there are in inn. -/
structure Link where
  yours : Int
  knows : Bool
  helloDue : Bool
  ackDue : Bool
  gone : Int
  out : List Bytes
  sent : Int
  acked : Bool
  wanted : Int
  inn : Int → Option Bytes
  puts : Nat
  hAt : Int
  hGap : Int
  aAt : Int
  aGap : Int
structure Ss where
  mine : Int
  l : Link
def minI : Int := -9223372036854775808
def maxI : Int := 9223372036854775807
def newL (y : Int) : Link := ⟨y, false, false, false, 0, [], 0, false, 1, fun _ => none, 0, minI, 1, minI, 1⟩
def newS (m : Int) : Ss := ⟨m, newL 0⟩
def Link.next (l : Link) : Int := l.gone + l.out.length + 1
def sendS (s : Ss) (b : Bytes) : Int × Ss :=
  if 32768 < b.length then (3, s) else if s.l.yours = 0 then (130, s) else if 64 ≤ s.l.out.length ∨ 2147483647 < s.l.next then (2, s)
  else (0, { s with l := { s.l with out := s.l.out ++ [b] } })
def letGo (l : Link) (u : Int) : Link :=
  if u - l.gone ≤ 0 ∨ l.next ≤ u then l
  else { l with out := l.out.drop (u - l.gone).toNat, gone := u, sent := max (l.sent - (u - l.gone)) 0, aGap := 1, acked := true }
def drainF : Nat → (Int → Option Bytes) → Int → List Bytes
  | 0, _, _ => []
  | n + 1, f, a => match f a with
    | none => []
    | some b => b :: drainF n f (a + 1)
def without (f : Int → Option Bytes) (a : Int) (k : Nat) : Int → Option Bytes := fun j => if a ≤ j ∧ j < a + (k : Int) then none else f j
def putF (f : Int → Option Bytes) (q : Int) (b : Bytes) : Int → Option Bytes := match f q with
  | some _ => f
  | none => fun i => if i = q then some b else f i
def takeS (l : Link) (q : Int) (b : Bytes) : List Bytes × Link :=
  if q < l.wanted ∨ l.wanted + 64 ≤ q then ([], { l with ackDue := true })
  else
    (drainF (l.puts + 2) (putF l.inn q b) l.wanted,
      { l with ackDue := true, inn := without (putF l.inn q b) l.wanted (drainF (l.puts + 2) (putF l.inn q b) l.wanted).length, wanted := l.wanted + (drainF (l.puts + 2) (putF l.inn q b) l.wanted).length, puts := l.puts + 1 })
def freshL (s : Ss) (e : Ev) : Link := if s.l.yours < e.mine then { newL e.mine with helloDue := true } else s.l
def onS (s : Ss) (e : Ev) : (List Bytes × Bool × Int) × Ss :=
  if fitsB e = false then (([], false, 1), s)
  else if e.mine < s.l.yours then (([], false, 0), s)
  else if e.yours ≠ s.mine then (([], decide (s.l.yours < e.mine), 0), { s with l := { freshL s e with helloDue := true } })
  else if e.kind = 1 then (([], decide (s.l.yours < e.mine), 0), { s with l := { freshL s e with knows := true, ackDue := (freshL s e).ackDue || !decide (s.l.yours < e.mine) } })
  else if e.kind = 3 then (([], decide (s.l.yours < e.mine), 0), { s with l := letGo { freshL s e with knows := true } e.ack })
  else (((takeS (letGo { freshL s e with knows := true } e.ack) e.seq e.body).1, decide (s.l.yours < e.mine), 0), { s with l := (takeS (letGo { freshL s e with knows := true } e.ack) e.seq e.body).2 })
def useAt (now gap : Int) : Int := min now (maxI - gap) + gap
def useH (l : Link) (now : Int) : Link := { l with hAt := useAt now l.hGap, hGap := min (2 * l.hGap) 16 }
def useA (l : Link) (now : Int) : Link := { l with aAt := useAt now l.aGap, aGap := min (2 * l.aGap) 16 }
def wanting (l : Link) (now : Int) : Bool := !l.knows && decide (l.hAt ≤ now)
def helloE (m now : Int) (l : Link) : List Ev := if wanting l now || l.helloDue then [⟨1, m, l.yours, 0, 0, []⟩] else []
def helloL (now : Int) (l : Link) : Link := { (if wanting l now then useH l now else l) with helloDue := false }
def dataE (m : Int) (l : Link) (i : Nat) : Ev := ⟨2, m, l.yours, l.gone + 1 + i, l.wanted - 1, l.out.getD i []⟩
def someE (m : Int) (l : Link) (fr to : Nat) : List Ev := (List.range' fr (to - fr)).map (dataE m l)
def actL (now : Int) (l : Link) : Link := { (if l.acked then useA l now else l) with acked := false }
def again (now : Int) (l : Link) : Bool := decide (0 < l.sent ∧ l.aAt ≤ now)
def againE (m now : Int) (l : Link) : List Ev := if again now l then someE m l 0 (min l.sent.toNat 8) else []
def outE (m now : Int) (l : Link) : List Ev := againE m now (actL now l) ++ someE m (actL now l) (actL now l).sent.toNat l.out.length
def againL (now : Int) (l : Link) : Link := if again now l then useA l now else l
def firstL (now : Int) (l : Link) : Link := if l.sent = 0 ∧ 0 < l.out.length then useA l now else l
def outL (m now : Int) (l : Link) : Link :=
  { firstL now (againL now (actL now l)) with sent := l.out.length, ackDue := l.ackDue && (outE m now l).isEmpty }
def ackE (m : Int) (l : Link) : List Ev := if l.ackDue then [⟨3, m, l.yours, 0, l.wanted - 1, []⟩] else []
def tickE (s : Ss) (now : Int) : List Ev :=
  helloE s.mine now s.l ++ (if (helloL now s.l).knows then outE s.mine now (helloL now s.l) ++ ackE s.mine (outL s.mine now (helloL now s.l)) else [])
def tickS (s : Ss) (now : Int) : Ss := { s with l := if (helloL now s.l).knows then { outL s.mine now (helloL now s.l) with ackDue := false } else helloL now s.l }

/-- What holds of every session. -/
structure Ok (s : Ss) : Prop where
  mine : 1 ≤ s.mine ∧ s.mine ≤ 2147483647
  yours : 0 ≤ s.l.yours ∧ s.l.yours ≤ 2147483647
  knows : s.l.knows = true → 1 ≤ s.l.yours
  gone : 0 ≤ s.l.gone ∧ s.l.gone + s.l.out.length ≤ 2147483647
  few : s.l.out.length ≤ 64
  sent : 0 ≤ s.l.sent ∧ s.l.sent ≤ s.l.out.length
  small : ∀ b ∈ s.l.out, b.length ≤ 32768
  outs : s.l.yours = 0 → s.l.out = []
  wanted : 1 ≤ s.l.wanted ∧ s.l.wanted ≤ 2147483648
  inn : ∀ j b, s.l.inn j = some b → s.l.wanted ≤ j ∧ j ≤ 2147483647 ∧ b.length ≤ 32768
  hGap : 1 ≤ s.l.hGap ∧ s.l.hGap ≤ 16
  aGap : 1 ≤ s.l.aGap ∧ s.l.aGap ≤ 16
theorem ok_newL {m y : Int} (hm : 1 ≤ m ∧ m ≤ 2147483647) (hy : 0 ≤ y ∧ y ≤ 2147483647) (h : Bool) : Ok ⟨m, { newL y with helloDue := h }⟩ := by
  refine ⟨hm, hy, ?_, ?_, ?_, ?_, ?_, ?_, ?_, ?_, ?_, ?_⟩ <;> simp [newL]
theorem ok_new {m : Int} (hm : 1 ≤ m ∧ m ≤ 2147483647) : Ok (newS m) := ok_newL hm ⟨by omega, by omega⟩ false
theorem fits_parts {e : Ev} (h : fitsB e = true) : (0 ≤ e.yours ∧ e.yours ≤ 2147483647) ∧ (0 ≤ e.seq ∧ e.seq ≤ 2147483647) ∧ (0 ≤ e.ack ∧ e.ack ≤ 2147483647) ∧ (1 ≤ e.mine ∧ e.mine ≤ 2147483647) ∧ e.body.length ≤ 32768 ∧
    (e.kind = 1 ∨ e.kind = 2 ∨ e.kind = 3) ∧ (e.kind = 2 → 0 < e.seq ∧ 0 < e.yours) := by
  unfold fitsB at h
  simp only [Bool.and_eq_true, decide_eq_true_eq] at h
  obtain ⟨⟨⟨⟨⟨h1, h2⟩, h3⟩, h4⟩, h5⟩, h6⟩ := h
  refine ⟨h1, h2, h3, h4, h5, ?_, fun hk => ?_⟩
  · by_cases k1 : e.kind = 1
    · exact .inl k1
    · rw [if_neg k1] at h6
      by_cases k2 : e.kind = 2
      · exact .inr (.inl k2)
      · rw [if_neg k2] at h6
        by_cases k3 : e.kind = 3
        · exact .inr (.inr k3)
        · rw [if_neg k3] at h6; cases h6
  · rw [if_neg (by omega), if_pos hk] at h6; simpa using h6
theorem ok_send {s : Ss} (h : Ok s) (b : Bytes) : Ok (sendS s b).2 := by
  unfold sendS
  split
  · exact h
  · split
    · exact h
    · split
      · exact h
      · rename_i h1 h2 h3
        have h4 : ¬ 64 ≤ s.l.out.length := fun e => h3 (.inl e)
        have h5 : ¬ 2147483647 < s.l.next := fun e => h3 (.inr e)
        unfold Link.next at h5
        obtain ⟨a1, a2, a3, a4, a5, a6, a7, a8, a9, a10, a11, a12⟩ := h
        refine ⟨a1, a2, a3, ⟨a4.1, ?_⟩, ?_, ⟨a6.1, ?_⟩, ?_, fun e => absurd e h2, a9, a10, a11, a12⟩
        · show s.l.gone + ((s.l.out ++ [b]).length : Int) ≤ _
          rw [List.length_append, List.length_singleton]; omega
        · show (s.l.out ++ [b]).length ≤ 64
          rw [List.length_append, List.length_singleton]; omega
        · show s.l.sent ≤ ((s.l.out ++ [b]).length : Int)
          rw [List.length_append, List.length_singleton]; omega
        · intro x hx
          rcases List.mem_append.1 hx with h6 | h6
          · exact a7 x h6
          · rw [List.mem_singleton.1 h6]; omega
theorem ok_letGo {m : Int} {l : Link} (h : Ok ⟨m, l⟩) (u : Int) : Ok ⟨m, letGo l u⟩ := by
  unfold letGo
  split
  · exact h
  · rename_i h1
    have h4 : ¬ u - l.gone ≤ 0 := fun e => h1 (.inl e)
    have h5 : ¬ l.next ≤ u := fun e => h1 (.inr e)
    unfold Link.next at h5
    obtain ⟨a1, a2, a3, a4, a5, a6, a7, a8, a9, a10, a11, a12⟩ := h
    simp only at *
    have hl : ((l.out.drop (u - l.gone).toNat).length : Int) = l.out.length - (u - l.gone) := by rw [List.length_drop]; omega
    refine ⟨a1, a2, a3, ⟨?_, ?_⟩, ?_, ⟨?_, ?_⟩, fun b hb => a7 b (List.mem_of_mem_drop hb), fun e => ?_, a9, a10, a11, ⟨?_, ?_⟩⟩
    · show 0 ≤ u; omega
    · show u + ((l.out.drop (u - l.gone).toNat).length : Int) ≤ _; omega
    · show (l.out.drop (u - l.gone).toNat).length ≤ 64; omega
    · show 0 ≤ max (l.sent - (u - l.gone)) 0; omega
    · show max (l.sent - (u - l.gone)) 0 ≤ ((l.out.drop (u - l.gone).toNat).length : Int); omega
    · show l.out.drop _ = []; rw [a8 e]; simp
    · show (1 : Int) ≤ 1; omega
    · show (1 : Int) ≤ 16; omega
theorem drain_some {f : Int → Option Bytes} {a : Int} {b : Bytes} (n : Nat) (h : f a = some b) : drainF (n + 1) f a = b :: drainF n f (a + 1) := by rw [drainF, h]
theorem drain_none {f : Int → Option Bytes} {a : Int} (n : Nat) (h : f a = none) : drainF (n + 1) f a = [] := by rw [drainF, h]
theorem drain_at : ∀ (n : Nat) (f : Int → Option Bytes) (a : Int) (k : Nat) (x : Bytes), (drainF n f a)[k]? = some x → f (a + k) = some x
  | 0, f, a, k, x, h => by simp [drainF] at h
  | n + 1, f, a, k, x, h => by
    cases hf : f a with
    | none => rw [drain_none n hf] at h; simp at h
    | some b =>
      rw [drain_some n hf] at h
      cases k with
      | zero => simp at h; subst h; simpa using hf
      | succ k =>
        rw [List.getElem?_cons_succ] at h
        have := drain_at n f (a + 1) k x h
        rw [← this]
        congr 1
        omega
theorem drain_len : ∀ (n : Nat) (f : Int → Option Bytes) (a : Int), (drainF n f a).length ≤ n
  | 0, f, a => by simp [drainF]
  | n + 1, f, a => by
    cases hf : f a with
    | none => rw [drain_none n hf]; simp
    | some b => rw [drain_some n hf]; simpa using drain_len n f (a + 1)
/-- Where it comes to an end it is what follows one another. -/
theorem drain_is : ∀ (n : Nat) (f : Int → Option Bytes) (a : Int) (bs : List Bytes), bs.length < n → (∀ (k : Nat) x, bs[k]? = some x → f (a + k) = some x) → f (a + bs.length) = none → drainF n f a = bs
  | 0, f, a, bs, h, _, _ => by omega
  | n + 1, f, a, [], h, h1, h2 => drain_none n (by simpa using h2)
  | n + 1, f, a, b :: bs, h, h1, h2 => by
    have e0 : f a = some b := by simpa using h1 0 b rfl
    have e1 : ∀ (k : Nat) x, bs[k]? = some x → f (a + 1 + k) = some x := fun k x hk => by
      have := h1 (k + 1) x (by simpa using hk)
      rw [← this]; congr 1; omega
    have e2 : f (a + 1 + bs.length) = none := by rw [← h2]; congr 1; simp; omega
    rw [drain_some n e0, drain_is n f (a + 1) bs (by simp at h; omega) e1 e2]
theorem putF_there {f : Int → Option Bytes} {q : Int} {x : Bytes} (b : Bytes) (h : f q = some x) : putF f q b = f := by rw [putF, h]
theorem putF_new {f : Int → Option Bytes} {q : Int} (b : Bytes) (h : f q = none) : putF f q b = fun i => if i = q then some b else f i := by rw [putF, h]
theorem putF_some {f : Int → Option Bytes} {q j : Int} {b x : Bytes} (h : putF f q b j = some x) : f j = some x ∨ (j = q ∧ x = b) := by
  cases hq : f q with
  | some y => rw [putF_there b hq] at h; exact .inl h
  | none =>
    rw [putF_new b hq] at h
    simp only at h
    split at h
    · rename_i e; injection h with h; exact .inr ⟨e, h.symm⟩
    · exact .inl h
theorem ok_take {m : Int} {l : Link} (h : Ok ⟨m, l⟩) (q : Int) (b : Bytes) (hq : q ≤ 2147483647) (hb : b.length ≤ 32768) : Ok ⟨m, (takeS l q b).2⟩ := by
  obtain ⟨a1, a2, a3, a4, a5, a6, a7, a8, a9, a10, a11, a12⟩ := h
  simp only at *
  unfold takeS
  split
  · exact ⟨a1, a2, a3, a4, a5, a6, a7, a8, a9, a10, a11, a12⟩
  · rename_i h1
    have h2 : ¬ q < l.wanted := fun e => h1 (.inl e)
    have hp : ∀ j x, putF l.inn q b j = some x → l.wanted ≤ j ∧ j ≤ 2147483647 ∧ x.length ≤ 32768 := fun j x hj => by
      rcases putF_some hj with h | ⟨rfl, rfl⟩
      · exact a10 j x h
      · exact ⟨by omega, hq, hb⟩
    have hd := fun k x hk => drain_at (l.puts + 2) (putF l.inn q b) l.wanted k x hk
    have hl : l.wanted + ((drainF (l.puts + 2) (putF l.inn q b) l.wanted).length : Int) ≤ 2147483648 := by
      rcases Nat.eq_zero_or_pos (drainF (l.puts + 2) (putF l.inn q b) l.wanted).length with e | e
      · rw [e]; omega
      · have hx := List.getElem?_eq_getElem (l := drainF (l.puts + 2) (putF l.inn q b) l.wanted) (i := (drainF (l.puts + 2) (putF l.inn q b) l.wanted).length - 1) (by omega)
        have := (hp _ _ (hd _ _ hx)).2.1
        omega
    refine ⟨a1, a2, a3, a4, a5, a6, a7, a8, ⟨?_, hl⟩, fun j x hj => ?_, a11, a12⟩
    · show 1 ≤ l.wanted + ((drainF (l.puts + 2) (putF l.inn q b) l.wanted).length : Int); omega
    · have hj' : without (putF l.inn q b) l.wanted (drainF (l.puts + 2) (putF l.inn q b) l.wanted).length j = some x := hj
      unfold without at hj'
      split at hj'
      · cases hj'
      · rename_i h3
        have := hp j x hj'
        refine ⟨?_, this.2.1, this.2.2⟩
        show l.wanted + ((drainF (l.puts + 2) (putF l.inn q b) l.wanted).length : Int) ≤ j
        omega
theorem ok_hello {m : Int} {l : Link} (h : Ok ⟨m, l⟩) (b : Bool) : Ok ⟨m, { l with helloDue := b }⟩ := ⟨h.mine, h.yours, h.knows, h.gone, h.few, h.sent, h.small, h.outs, h.wanted, h.inn, h.hGap, h.aGap⟩
theorem ok_ack {m : Int} {l : Link} (h : Ok ⟨m, l⟩) (b : Bool) : Ok ⟨m, { l with ackDue := b }⟩ := ⟨h.mine, h.yours, h.knows, h.gone, h.few, h.sent, h.small, h.outs, h.wanted, h.inn, h.hGap, h.aGap⟩
theorem ok_knows {m : Int} {l : Link} (h : Ok ⟨m, l⟩) (hy : 1 ≤ l.yours) : Ok ⟨m, { l with knows := true }⟩ := ⟨h.mine, h.yours, fun _ => hy, h.gone, h.few, h.sent, h.small, h.outs, h.wanted, h.inn, h.hGap, h.aGap⟩
theorem ok_fresh {s : Ss} (h : Ok s) {e : Ev} (hf : fitsB e = true) (hm : ¬ e.mine < s.l.yours) : Ok ⟨s.mine, freshL s e⟩ ∧ (freshL s e).yours = e.mine := by
  have hp := (fits_parts hf).2.2.2.1
  unfold freshL
  split
  · exact ⟨ok_newL h.mine ⟨by omega, hp.2⟩ true, rfl⟩
  · exact ⟨h, by omega⟩
theorem ok_on {s : Ss} (h : Ok s) (e : Ev) : Ok (onS s e).2 := by
  unfold onS
  split
  · exact h
  · rename_i h1
    have hf : fitsB e = true := by simpa using h1
    obtain ⟨p1, p2, p3, p4, p5, p6, p7⟩ := fits_parts hf
    split
    · exact h
    · rename_i h2
      obtain ⟨o1, o2⟩ := ok_fresh h hf h2
      have o3 := ok_knows o1 (by rw [o2]; exact p4.1)
      split
      · exact ok_hello o1 true
      · split
        · exact ok_ack o3 _
        · split
          · exact ok_letGo o3 _
          · exact ok_take (ok_letGo o3 _) _ _ p2.2 p5
theorem ok_useA {m : Int} {l : Link} (h : Ok ⟨m, l⟩) (now : Int) : Ok ⟨m, useA l now⟩ := by
  obtain ⟨a1, a2, a3, a4, a5, a6, a7, a8, a9, a10, a11, a12⟩ := h
  refine ⟨a1, a2, a3, a4, a5, a6, a7, a8, a9, a10, a11, ?_⟩
  show 1 ≤ min (2 * l.aGap) 16 ∧ min (2 * l.aGap) 16 ≤ 16
  simp only at a12
  omega
theorem ok_useH {m : Int} {l : Link} (h : Ok ⟨m, l⟩) (now : Int) : Ok ⟨m, useH l now⟩ := by
  obtain ⟨a1, a2, a3, a4, a5, a6, a7, a8, a9, a10, a11, a12⟩ := h
  refine ⟨a1, a2, a3, a4, a5, a6, a7, a8, a9, a10, ?_, a12⟩
  show 1 ≤ min (2 * l.hGap) 16 ∧ min (2 * l.hGap) 16 ≤ 16
  simp only at a11
  omega
theorem ok_helloL {m : Int} {l : Link} (h : Ok ⟨m, l⟩) (now : Int) : Ok ⟨m, helloL now l⟩ := by
  unfold helloL
  split
  · exact ok_hello (ok_useH h now) false
  · exact ok_hello h false
theorem ok_actL {m : Int} {l : Link} (h : Ok ⟨m, l⟩) (now : Int) : Ok ⟨m, actL now l⟩ := by
  have hk : ∀ {l : Link}, Ok ⟨m, l⟩ → Ok ⟨m, { l with acked := false }⟩ := fun h => ⟨h.mine, h.yours, h.knows, h.gone, h.few, h.sent, h.small, h.outs, h.wanted, h.inn, h.hGap, h.aGap⟩
  unfold actL
  split
  · exact hk (ok_useA h now)
  · exact hk h
theorem actL_out (now : Int) (l : Link) : (actL now l).out = l.out ∧ (actL now l).sent = l.sent ∧ (actL now l).gone = l.gone ∧ (actL now l).wanted = l.wanted ∧ (actL now l).yours = l.yours ∧ (actL now l).ackDue = l.ackDue ∧ (actL now l).inn = l.inn ∧ (actL now l).knows = l.knows ∧ (actL now l).puts = l.puts := by
  unfold actL; split <;> exact ⟨rfl, rfl, rfl, rfl, rfl, rfl, rfl, rfl, rfl⟩
theorem againL_out (now : Int) (l : Link) : (againL now l).out = l.out ∧ (againL now l).sent = l.sent ∧ (againL now l).gone = l.gone ∧ (againL now l).wanted = l.wanted ∧ (againL now l).yours = l.yours ∧ (againL now l).ackDue = l.ackDue ∧ (againL now l).inn = l.inn ∧ (againL now l).knows = l.knows ∧ (againL now l).puts = l.puts := by
  unfold againL; split <;> exact ⟨rfl, rfl, rfl, rfl, rfl, rfl, rfl, rfl, rfl⟩
theorem firstL_out (now : Int) (l : Link) : (firstL now l).out = l.out ∧ (firstL now l).sent = l.sent ∧ (firstL now l).gone = l.gone ∧ (firstL now l).wanted = l.wanted ∧ (firstL now l).yours = l.yours ∧ (firstL now l).ackDue = l.ackDue ∧ (firstL now l).inn = l.inn ∧ (firstL now l).knows = l.knows ∧ (firstL now l).puts = l.puts := by
  unfold firstL; split <;> exact ⟨rfl, rfl, rfl, rfl, rfl, rfl, rfl, rfl, rfl⟩
theorem helloL_out (now : Int) (l : Link) : (helloL now l).out = l.out ∧ (helloL now l).sent = l.sent ∧ (helloL now l).gone = l.gone ∧ (helloL now l).wanted = l.wanted ∧ (helloL now l).yours = l.yours ∧ (helloL now l).ackDue = l.ackDue ∧ (helloL now l).inn = l.inn ∧ (helloL now l).knows = l.knows ∧ (helloL now l).puts = l.puts := by
  unfold helloL; split <;> exact ⟨rfl, rfl, rfl, rfl, rfl, rfl, rfl, rfl, rfl⟩
theorem ok_outL {m : Int} {l : Link} (h : Ok ⟨m, l⟩) (now : Int) : Ok ⟨m, outL m now l⟩ := by
  have h1 := ok_actL h now
  have h2 : Ok ⟨m, againL now (actL now l)⟩ := by
    unfold againL
    split
    · exact ok_useA h1 now
    · exact h1
  have h3 : Ok ⟨m, firstL now (againL now (actL now l))⟩ := by
    unfold firstL
    split
    · exact ok_useA h2 now
    · exact h2
  have e := firstL_out now (againL now (actL now l))
  have e2 := againL_out now (actL now l)
  have e3 := actL_out now l
  have ho : (firstL now (againL now (actL now l))).out = l.out := e.1.trans (e2.1.trans e3.1)
  refine ⟨h3.mine, h3.yours, h3.knows, h3.gone, h3.few, ?_, h3.small, h3.outs, h3.wanted, h3.inn, h3.hGap, h3.aGap⟩
  show 0 ≤ (l.out.length : Int) ∧ (l.out.length : Int) ≤ ((firstL now (againL now (actL now l))).out.length : Int)
  rw [ho]; omega
theorem ok_tick {s : Ss} (h : Ok s) (now : Int) : Ok (tickS s now) := by
  unfold tickS
  have h1 := ok_helloL (m := s.mine) (l := s.l) h now
  split
  · exact ok_ack (ok_outL h1 now) false
  · exact h1
end Go.Ses
