/- Walk of the law CronLists. -/
import Derived.Test.YtlkdeiohjdidcaaDoorCrpB
set_option linter.unusedSimpArgs false
set_option linter.unusedVariables false
namespace Go.Proofs.YtlkdeiohjdidcaaDoor
open Go.ChangeShapes Go.WideShapes Go.ChangeAt Go.RowKit Go.Base Go.Cro Go.Civ

/-- A region's held condition may be made to say more on the way. -/
theorem wpAnyH_imp {P : Program} {md : Region.Mode} {ops : Array Oper} {Q : Exit → Act → World → Prop} {S S' : World → Prop} (h : ∀ w, S' w → S w) :
    ∀ (fuel : Nat) (listed : Array Bool) (a : Act) (w : World), wpAnyH P md ops Q S' fuel listed a w → wpAnyH P md ops Q S fuel listed a w
  | 0, _, _, _, H => H
  | fuel + 1, _, _, _, H => ⟨H.1, fun i hi => wpOp_mono (fun a' w' h' => ⟨h _ h'.1, wpAnyH_imp h fuel _ a' w' h'.2⟩) (H.2 i hi)⟩

abbrev FR := Except Int (Int × Bool)
def rx (r : FR) (k i : Nat) : Int := match r with | .ok m => if i = k then m.1 else 2 | .error _ => 0
def ra (r : FR) (k i : Nat) : Bool := match r with | .ok m => if i = k then m.2 else false | .error _ => false
def re (r : FR) : Int := match r with | .ok _ => 0 | .error e => e
def rn (r : FR) (k : Nat) : Int := match r with | .ok _ => 0 | .error _ => k
def rV (r : FR) (k : Nat) : Value := .agg #[.int .u64 (rx r k 0), .int .u64 (rx r k 1), .int .u64 (rx r k 2), .int .u64 (rx r k 3), .int .u64 (rx r k 4), .bool (ra r k 2), .bool (ra r k 4)]
theorem with_call (k : Nat) (hk : k < 5) (f : Bytes) (hf : f ≠ []) (hb : ∀ b ∈ f, blankB b = false) (hl : f.length ≤ 201) (w : World) (hT : ScTab w) :
    Calls Tryd.prog 10 #[.string ⟨(withB k f).toArray⟩] w fun e W' => e = .returned (.tuple #[rV (fieldB k f) k, .int .i64 (re (fieldB k f)), .int .i64 (rn (fieldB k f) k)]) ∧ Below w.heap.size w W' := by
  have hp := with_parse k hk f hf hb hl
  have hlen : (withB k f).length ≤ maxLen := by
    have := wpre_len k f 5
    unfold withB maxLen; omega
  cases h : fieldB k f with
  | error e' =>
    rw [h] at hp
    exact parse_err hp hlen w hT
  | ok m =>
    rw [h] at hp
    refine (parse_ok hp hlen w hT).mono fun e W' he => ?_
    have hv : specV ((List.range 5).map fun i => if i = k then m else (2, false)) = rV (.ok m) k := by
      rcases k with _ | _ | _ | _ | _ | k
      · rfl
      · rfl
      · rfl
      · rfl
      · rfl
      · omega
    rw [hv] at he
    exact he
theorem re_err {k : Nat} {l : Bytes} {e : Int} (h : fieldB k l = .error e) : e ≠ 0 := by
  rcases fieldB_err h with rfl | rfl <;> decide
theorem two_bad {k : Nat} {x y : Bytes} (h : re (fieldB k x) ≠ 0 ∨ re (fieldB k y) ≠ 0) : re (fieldB k (x ++ 44 :: y)) ≠ 0 ∧ rn (fieldB k (x ++ 44 :: y)) k = k := by
  rw [fieldB_two]
  cases hx : fieldB k x with
  | error e => exact ⟨re_err hx, rfl⟩
  | ok m =>
    cases hy : fieldB k y with
    | error e => exact ⟨re_err hy, rfl⟩
    | ok n => rw [hx, hy] at h; simp [re] at h
theorem two_good {k : Nat} {x y : Bytes} (h : re (fieldB k x) = 0) (h' : re (fieldB k y) = 0) : re (fieldB k (x ++ 44 :: y)) = 0 ∧ (∀ i, rx (fieldB k (x ++ 44 :: y)) k i = bits .or .u64 (rx (fieldB k x) k i) (rx (fieldB k y) k i)) ∧ (∀ i, ra (fieldB k (x ++ 44 :: y)) k i = (ra (fieldB k x) k i || ra (fieldB k y) k i)) := by
  rw [fieldB_two]
  cases hx : fieldB k x with
  | error e => rw [hx] at h; exact absurd h (re_err hx)
  | ok m =>
    cases hy : fieldB k y with
    | error e => rw [hy] at h'; exact absurd h' (re_err hy)
    | ok n =>
      refine ⟨rfl, fun i => ?_, fun i => ?_⟩
      · simp only [rx]; split
        · rfl
        · decide +kernel
      · simp only [ra]; split <;> rfl

set_option maxHeartbeats 3200000 in
set_option maxRecDepth 100000 in
theorem lists_long (a b : Bytes) (at_ : Int) (h1 : -9223372036854775808 ≤ at_) (h2 : at_ ≤ 9223372036854775807) (w : World) (hT : Tabs w) (la : a.length ≤ 140737488351232) (lb : b.length ≤ 140737488351232) (hl : 200 < a.length + b.length) :
    Calls Tryd.prog 6 #[.string ⟨a.toArray⟩, .string ⟨b.toArray⟩, .int .i64 at_] w fun e w' => e = .returned (.bool true) ∧ Below w.heap.size w w' := by
  have HT := Lib.hid hT
  have HL := Lib.hid (fun w h => lives_any w h)
  have t1 := Int.tmod_lt_of_pos at_ (show (0 : Int) < 5 by decide)
  have t2 := Int.lt_tmod_of_pos at_ (show (0 : Int) < 5 by decide)
  clear hT
  have hl2 : (200 : Int) < (a.length : Int) + (b.length : Int) := by omega
  have la2 : (a.length : Int) ≤ 140737488351232 := by omega
  have lb2 : (b.length : Int) ≤ 140737488351232 := by omega
  clear hl la lb
  by_cases hneg : at_.tmod 5 < 0
  · go_enter Tryd.func6, Tryd.ntmps6
    go_wp2_with fail
    refine (HL.out _ (HT.out.later (Below.refl w.heap.size w))).mono ?_
    rintro e w9 ⟨rfl, hb9⟩
    have HB9 := Lib.hid (((Below.refl w.heap.size w)).trans (hb9.mono ((Below.refl w.heap.size w)).size))
    clear hb9
    go_wp2_with fail
    go_ret
    exact ⟨rfl, HB9.out⟩
  · go_enter Tryd.func6, Tryd.ntmps6
    go_wp2_with fail
    refine (HL.out _ (HT.out.later (Below.refl w.heap.size w))).mono ?_
    rintro e w9 ⟨rfl, hb9⟩
    have HB9 := Lib.hid (((Below.refl w.heap.size w)).trans (hb9.mono ((Below.refl w.heap.size w)).size))
    clear hb9
    go_wp2_with fail
    go_ret
    exact ⟨rfl, HB9.out⟩

set_option maxHeartbeats 3200000 in
set_option maxRecDepth 100000 in
theorem lists_one (a b : Bytes) (at_ : Int) (h1 : -9223372036854775808 ≤ at_) (h2 : at_ ≤ 9223372036854775807) (w : World) (hT : Tabs w) (hl : a.length + b.length ≤ 200) (hn : (fieldsB a).length ≠ 1) :
    Calls Tryd.prog 6 #[.string ⟨a.toArray⟩, .string ⟨b.toArray⟩, .int .i64 at_] w fun e w' => e = .returned (.bool true) ∧ Below w.heap.size w w' := by
  have HT := Lib.hid hT
  have HL := Lib.hid (fun w h => lives_any w h)
  have t1 := Int.tmod_lt_of_pos at_ (show (0 : Int) < 5 by decide)
  have t2 := Int.lt_tmod_of_pos at_ (show (0 : Int) < 5 by decide)
  clear hT
  have hl2 : (a.length : Int) + (b.length : Int) ≤ 200 := by omega
  have FA := Lib.hid (fun w => refFields_any a (by omega) w)
  have FB := Lib.hid (fun w => refFields_any b (by omega) w)
  have hn' : (((fieldsB a).length : Int) == 1) = false := by simp only [beq_eq_false_iff_ne]; omega
  have hn2 : ¬ ((fieldsB a).length : Int) = 1 := by omega
  have hn3 : ¬ (fieldsB a).length = 1 := hn
  clear hl hn
  by_cases hneg : at_.tmod 5 < 0
  · go_enter Tryd.func6, Tryd.ntmps6
    go_wp2_with fail
    refine (FA.out _).mono ?_
    rintro e w1 ⟨⟨v1, rfl, ho⟩, hb⟩
    obtain ⟨p1, c1, rfl⟩ := owns_slice ho
    have HB1 := Lib.hid ((Below.refl w.heap.size w).trans (hb.mono (Below.refl w.heap.size w).size))
    clear ho hb
    go_wp2_with fail
    refine (HL.out _ (HT.out.later HB1.out)).mono ?_
    rintro e w9 ⟨rfl, hb9⟩
    have HB9 := Lib.hid ((HB1.out).trans (hb9.mono (HB1.out).size))
    clear hb9
    go_wp2_with fail
    go_ret
    exact ⟨rfl, HB9.out⟩
  · go_enter Tryd.func6, Tryd.ntmps6
    go_wp2_with fail
    refine (FA.out _).mono ?_
    rintro e w1 ⟨⟨v1, rfl, ho⟩, hb⟩
    obtain ⟨p1, c1, rfl⟩ := owns_slice ho
    have HB1 := Lib.hid ((Below.refl w.heap.size w).trans (hb.mono (Below.refl w.heap.size w).size))
    clear ho hb
    go_wp2_with fail
    refine (HL.out _ (HT.out.later HB1.out)).mono ?_
    rintro e w9 ⟨rfl, hb9⟩
    have HB9 := Lib.hid ((HB1.out).trans (hb9.mono (HB1.out).size))
    clear hb9
    go_wp2_with fail
    go_ret
    exact ⟨rfl, HB9.out⟩

set_option maxHeartbeats 3200000 in
set_option maxRecDepth 100000 in
theorem lists_two (a b : Bytes) (at_ : Int) (h1 : -9223372036854775808 ≤ at_) (h2 : at_ ≤ 9223372036854775807) (w : World) (hT : Tabs w) (hl : a.length + b.length ≤ 200) (ha : (fieldsB a).length = 1) (hn : (fieldsB b).length ≠ 1) :
    Calls Tryd.prog 6 #[.string ⟨a.toArray⟩, .string ⟨b.toArray⟩, .int .i64 at_] w fun e w' => e = .returned (.bool true) ∧ Below w.heap.size w w' := by
  have HT := Lib.hid hT
  have HL := Lib.hid (fun w h => lives_any w h)
  have t1 := Int.tmod_lt_of_pos at_ (show (0 : Int) < 5 by decide)
  have t2 := Int.lt_tmod_of_pos at_ (show (0 : Int) < 5 by decide)
  clear hT
  have hl2 : (a.length : Int) + (b.length : Int) ≤ 200 := by omega
  have FA := Lib.hid (fun w => refFields_any a (by omega) w)
  have FB := Lib.hid (fun w => refFields_any b (by omega) w)
  rw [ha] at FA
  have hn' : (((fieldsB b).length : Int) == 1) = false := by simp only [beq_eq_false_iff_ne]; omega
  have hn2 : ¬ ((fieldsB b).length : Int) = 1 := by omega
  have hn3 : ¬ (fieldsB b).length = 1 := hn
  have hn4 : (((fieldsB b).length : Int) != 1) = true := by simp only [bne_iff_ne]; omega
  clear hl hn ha
  by_cases hneg : at_.tmod 5 < 0
  · go_enter Tryd.func6, Tryd.ntmps6
    go_wp2_with fail
    refine (FA.out _).mono ?_
    rintro e w1 ⟨⟨v1, rfl, ho⟩, hb⟩
    obtain ⟨p1, c1, rfl⟩ := owns_slice ho
    have HB1 := Lib.hid ((Below.refl w.heap.size w).trans (hb.mono (Below.refl w.heap.size w).size))
    clear ho hb
    go_wp2_with fail
    refine (FB.out _).mono ?_
    rintro e w2 ⟨⟨v2, rfl, ho⟩, hb⟩
    obtain ⟨p2, c2, rfl⟩ := owns_slice ho
    have HB2 := Lib.hid ((HB1.out).trans (hb.mono (HB1.out).size))
    clear ho hb
    go_wp2_with fail
    refine (HL.out _ (HT.out.later HB2.out)).mono ?_
    rintro e w9 ⟨rfl, hb9⟩
    have HB9 := Lib.hid ((HB2.out).trans (hb9.mono (HB2.out).size))
    clear hb9
    go_wp2_with fail
    go_ret
    exact ⟨rfl, HB9.out⟩
  · go_enter Tryd.func6, Tryd.ntmps6
    go_wp2_with fail
    refine (FA.out _).mono ?_
    rintro e w1 ⟨⟨v1, rfl, ho⟩, hb⟩
    obtain ⟨p1, c1, rfl⟩ := owns_slice ho
    have HB1 := Lib.hid ((Below.refl w.heap.size w).trans (hb.mono (Below.refl w.heap.size w).size))
    clear ho hb
    go_wp2_with fail
    refine (FB.out _).mono ?_
    rintro e w2 ⟨⟨v2, rfl, ho⟩, hb⟩
    obtain ⟨p2, c2, rfl⟩ := owns_slice ho
    have HB2 := Lib.hid ((HB1.out).trans (hb.mono (HB1.out).size))
    clear ho hb
    go_wp2_with fail
    refine (HL.out _ (HT.out.later HB2.out)).mono ?_
    rintro e w9 ⟨rfl, hb9⟩
    have HB9 := Lib.hid ((HB2.out).trans (hb9.mono (HB2.out).size))
    clear hb9
    go_wp2_with fail
    go_ret
    exact ⟨rfl, HB9.out⟩

set_option maxHeartbeats 40000000 in
set_option maxRecDepth 100000 in
theorem lists_main (a b x y : Bytes) (at_ : Int) (h1 : -9223372036854775808 ≤ at_) (h2 : at_ ≤ 9223372036854775807) (w : World) (hT : Tabs w) (hl : a.length + b.length ≤ 200) (hx : fieldsB a = [x]) (hy : fieldsB b = [y]) :
    Calls Tryd.prog 6 #[.string ⟨a.toArray⟩, .string ⟨b.toArray⟩, .int .i64 at_] w fun e w' => e = .returned (.bool true) ∧ Below w.heap.size w w' := by
  have HT := Lib.hid hT
  have HL := Lib.hid (fun w h => lives_any w h)
  have t1 := Int.tmod_lt_of_pos at_ (show (0 : Int) < 5 by decide)
  have t2 := Int.lt_tmod_of_pos at_ (show (0 : Int) < 5 by decide)
  have hl2 : (a.length : Int) + (b.length : Int) ≤ 200 := by omega
  have FA := Lib.hid (fun w => refFields_any a (by omega) w)
  have FB := Lib.hid (fun w => refFields_any b (by omega) w)
  rw [hx] at FA
  rw [hy] at FB
  simp only [List.length_cons, List.length_nil, List.map_cons, List.map_nil, Nat.zero_add] at FA FB
  obtain ⟨x1, x2, x3⟩ := fields_mem (l := a) (x := x) (by rw [hx]; simp)
  obtain ⟨y1, y2, y3⟩ := fields_mem (l := b) (x := y) (by rw [hy]; simp)
  have z2 : ∀ c ∈ x ++ 44 :: y, blankB c = false := by
    intro c hc
    rcases List.mem_append.1 hc with h | h
    · exact x2 c h
    · rcases List.mem_cons.1 h with rfl | h
      · rfl
      · exact y2 c h
  have z3 : (x ++ 44 :: y).length ≤ 201 := by simp; omega
  have HZ : Hid (((⟨x.toArray⟩ : ByteArray) ++ (⟨#[44]⟩ : ByteArray) ++ (⟨y.toArray⟩ : ByteArray)) = ⟨(x ++ 44 :: y).toArray⟩) := Lib.hid (by rw [show (⟨#[44]⟩ : ByteArray) = ⟨[44].toArray⟩ from rfl, bytes_append, bytes_append]; simp)
  have xl : (x.length : Int) ≤ 200 := by omega
  have yl : (y.length : Int) ≤ 200 := by omega
  have hmx : Tryd.prog.follows .mixedOrders = true := by kernel_rfl
  have hkk : ∃ k : Nat, k < 5 ∧ ((at_.tmod 5 < 0 ∧ -at_.tmod 5 = (k : Int)) ∨ (0 ≤ at_.tmod 5 ∧ at_.tmod 5 = (k : Int))) := by
    by_cases hneg : at_.tmod 5 < 0
    · exact ⟨(-at_.tmod 5).toNat, by omega, .inl ⟨hneg, by omega⟩⟩
    · exact ⟨(at_.tmod 5).toNat, by omega, .inr ⟨by omega, by omega⟩⟩
  obtain ⟨k, hk, hkv⟩ := hkk
  have hk5 : (k : Int) < 5 := by omega
  have WX := Lib.hid (fun w => with_any k x (by omega) w)
  have WY := Lib.hid (fun w => with_any k y (by omega) w)
  have WZ := Lib.hid (fun w => with_any k (x ++ 44 :: y) (by omega) w)
  have PX := Lib.hid (fun w h => with_call k hk x x1 x2 (by omega) w h)
  simp only [rV] at PX
  have PY := Lib.hid (fun w h => with_call k hk y y1 y2 (by omega) w h)
  simp only [rV] at PY
  have PZ := Lib.hid (fun w h => with_call k hk (x ++ 44 :: y) (by simp) z2 z3 w h)
  simp only [rV] at PZ
  have HBAD : Hid ((re (fieldB k x) ≠ 0 ∨ re (fieldB k y) ≠ 0) → re (fieldB k (x ++ 44 :: y)) ≠ 0 ∧ rn (fieldB k (x ++ 44 :: y)) k = k) := Lib.hid two_bad
  have HGOOD : Hid (re (fieldB k x) = 0 → re (fieldB k y) = 0 → _) := Lib.hid (fun h h' => two_good h h')
  generalize fieldB k (x ++ 44 :: y) = rz at *
  generalize fieldB k x = rx_ at *
  generalize fieldB k y = ry_ at *
  clear hT hl hx hy x1 x2 x3 y1 y2 y3 z2 z3
  by_cases hex : re rx_ = 0
  · by_cases hey : re ry_ = 0
    · obtain ⟨hez, hzx, hza⟩ := HGOOD.out hex hey
      have zx0 := hzx 0; have zx1 := hzx 1; have zx2 := hzx 2; have zx3 := hzx 3; have zx4 := hzx 4
      have za2 := hza 2; have za4 := hza 4
      rw [hex] at PX
      rw [hey] at PY
      rw [hez, zx0, zx1, zx2, zx3, zx4, za2, za4] at PZ
      clear HGOOD HBAD hez hzx hza zx0 zx1 zx2 zx3 zx4 za2 za4 hex hey
      rcases hkv with ⟨hn, hkv⟩ | ⟨hn, hkv⟩
      · go_enter Tryd.func6, Tryd.ntmps6
        go_wp2_with fail
        refine (FA.out _).mono ?_
        rintro e w1 ⟨⟨v1, rfl, ho⟩, hb⟩
        obtain ⟨p1, c1, rfl⟩ := owns_slice ho
        have HB1 := Lib.hid ((Below.refl w.heap.size w).trans (hb.mono (Below.refl w.heap.size w).size))
        clear ho hb
        go_wp2_with fail
        refine (FB.out _).mono ?_
        rintro e w2 ⟨⟨v2, rfl, ho⟩, hb⟩
        obtain ⟨p2, c2, rfl⟩ := owns_slice ho
        have HB2 := Lib.hid ((HB1.out).trans (hb.mono (HB1.out).size))
        clear ho hb
        go_wp2_with fail
        have HB2' := HB2.out
        refine wp_region_held_drew (S := fun w' => Below w2.heap.size w2 w') hmx (Below.refl _ _).drew (fun hHeld => ?_)
        refine wpAnyH_take (i := 0) (v := ?v1) rfl (by kernel_rfl) (by kernel_rfl) (by kernel_rfl) (fun _ _ _ h => h) (Or.inl ⟨by rfl, ?hy1⟩) hHeld ?rest1
        case hy1 => (intro w' hSw; go_simp; try with_reducible rfl)
        try simp only [Act.put, List.setIfInBounds_toArray, List.set_cons_zero, List.set_cons_succ, List.getElem_toArray, List.getElem_cons_succ, List.getElem_cons_zero]
        refine wpAnyH_take (i := 4) (v := ?v2) rfl (by kernel_rfl) (by kernel_rfl) (by kernel_rfl) (fun _ _ _ h => h) (Or.inl ⟨by rfl, ?hy2⟩) hHeld ?rest2
        case hy2 => (intro w' hSw; go_simp; try with_reducible rfl)
        try simp only [Act.put, List.setIfInBounds_toArray, List.set_cons_zero, List.set_cons_succ, List.getElem_toArray, List.getElem_cons_succ, List.getElem_cons_zero]
        refine wpAnyH_ready (rs := [1]) (by kernel_rfl) (by simp) ?_
        refine AllReadyH.cons rfl (fun K hK => ?_) AllReadyH.nil
        go_simp
        go_at_call 17
        refine Calls.mono (FA.out _) ?_
        rintro e w3 ⟨⟨v3, rfl, ho⟩, hb⟩
        obtain ⟨g3, c3, rfl, cx, hg3, hlt3⟩ := owns_one ho
        go_wp2_with fail
        have hB3 : Below w2.heap.size w2 w3 := (Below.refl _ _).drew.trans hb
        refine hK.out _ _ hB3 (fun hHeld2 => ?_)
        clear hK K hb hHeld ho hHeld2
        try simp only [Act.put, List.setIfInBounds_toArray, List.set_cons_zero, List.set_cons_succ, List.getElem_toArray, List.getElem_cons_succ, List.getElem_cons_zero]
        refine wpAnyH_imp (S' := fun w' => w'.cell? ⟨g3, 0, none⟩ = some (.string ⟨x.toArray⟩) ∧ Below w2.heap.size w2 w') (fun _ h => h.2) _ _ _ _ ?_
        have hHeld : w3.cell? ⟨g3, 0, none⟩ = some (.string ⟨x.toArray⟩) ∧ Below w2.heap.size w2 w3 := ⟨cx, hB3⟩
        refine wpAnyH_take (i := 2) (v := ?v3) rfl (by kernel_rfl) (by kernel_rfl) (by kernel_rfl) (fun _ _ _ h => h) (Or.inl ⟨by rfl, ?hy3⟩) hHeld ?rest3
        case hy3 => (intro w' hSw; go_simp; try with_reducible rfl)
        try simp only [Act.put, List.setIfInBounds_toArray, List.set_cons_zero, List.set_cons_succ, List.getElem_toArray, List.getElem_cons_succ, List.getElem_cons_zero]
        refine wpAnyH_take (i := 3) (v := ?v4) rfl (by kernel_rfl) (by kernel_rfl) (by kernel_rfl) (fun _ _ _ h => h) (Or.inl ⟨by rfl, ?hy4⟩) hHeld ?rest4
        case hy4 => (intro w' hSw; go_simp; try with_reducible rfl)
        try simp only [Act.put, List.setIfInBounds_toArray, List.set_cons_zero, List.set_cons_succ, List.getElem_toArray, List.getElem_cons_succ, List.getElem_cons_zero]
        refine wpAnyH_ready (rs := [5]) (by kernel_rfl) (by simp) ?_
        refine AllReadyH.cons rfl (fun K hK => ?_) AllReadyH.nil
        go_simp
        go_at_call 17
        refine Calls.mono (FB.out _) ?_
        rintro e w4 ⟨⟨v4, rfl, ho⟩, hb⟩
        obtain ⟨g4, c4, rfl, cy, hg4, hlt4⟩ := owns_one ho
        go_wp2_with fail
        have hB4 : Below w2.heap.size w2 w4 := hB3.trans (hb.mono hB3.size)
        refine hK.out _ _ ⟨(hb.cell hlt3).trans cx, hB4⟩ (fun hHeld2 => ?_)
        have hcx4 := (hb.cell hlt3).trans cx
        clear hK K hb hHeld ho hHeld2 cx hB3
        try simp only [Act.put, List.setIfInBounds_toArray, List.set_cons_zero, List.set_cons_succ, List.getElem_toArray, List.getElem_cons_succ, List.getElem_cons_zero]
        refine wpAnyH_imp (S' := fun w' => w'.cell? ⟨g4, 0, none⟩ = some (.string ⟨y.toArray⟩) ∧ w'.cell? ⟨g3, 0, none⟩ = some (.string ⟨x.toArray⟩) ∧ Below w2.heap.size w2 w') (fun _ h => h.2) _ _ _ _ ?_
        have hHeld : w4.cell? ⟨g4, 0, none⟩ = some (.string ⟨y.toArray⟩) ∧ w4.cell? ⟨g3, 0, none⟩ = some (.string ⟨x.toArray⟩) ∧ Below w2.heap.size w2 w4 := ⟨cy, hcx4, hB4⟩
        refine wpAnyH_take (i := 6) (v := ?v5) rfl (by kernel_rfl) (by kernel_rfl) (by kernel_rfl) (fun _ _ _ h => h) (Or.inl ⟨by rfl, ?hy5⟩) hHeld ?rest5
        case hy5 => (intro w' hSw; go_simp; try with_reducible rfl)
        try simp only [Act.put, List.setIfInBounds_toArray, List.set_cons_zero, List.set_cons_succ, List.getElem_toArray, List.getElem_cons_succ, List.getElem_cons_zero]
        refine wpAnyH_take (i := 7) (v := ?v6) rfl (by kernel_rfl) (by kernel_rfl) (by kernel_rfl) (fun _ _ _ h => h) (Or.inl ⟨by rfl, ?hy6⟩) hHeld ?rest6
        case hy6 => (intro w' hSw; go_simp; try with_reducible rfl)
        try simp only [Act.put, List.setIfInBounds_toArray, List.set_cons_zero, List.set_cons_succ, List.getElem_toArray, List.getElem_cons_succ, List.getElem_cons_zero]
        refine wpAnyH_take (i := 8) (v := ?v7) rfl (by kernel_rfl) (by kernel_rfl) (by kernel_rfl) (fun _ _ _ h => h) (Or.inl ⟨by rfl, ?hy7⟩) hHeld ?rest7
        case hy7 => (intro w' hSw; go_simp; try with_reducible rfl)
        try simp only [Act.put, List.setIfInBounds_toArray, List.set_cons_zero, List.set_cons_succ, List.getElem_toArray, List.getElem_cons_succ, List.getElem_cons_zero]
        refine wpAnyH_take (i := 9) (v := ?v8) rfl (by kernel_rfl) (by kernel_rfl) (by kernel_rfl) (fun _ _ _ h => h) (Or.inl ⟨by rfl, ?hy8⟩) hHeld ?rest8
        case hy8 => (intro w' hSw; go_simp; try with_reducible rfl)
        try simp only [Act.put, List.setIfInBounds_toArray, List.set_cons_zero, List.set_cons_succ, List.getElem_toArray, List.getElem_cons_succ, List.getElem_cons_zero]
        refine wpAnyH_done (by kernel_rfl) ?_ _
        have HB4 := Lib.hid (HB2.out.trans (hB4.mono HB2.out.size))
        clear hHeld cy hcx4 hB4 HB2' hg3 hg4 hlt3 hlt4
        go_wp2_with fail
        refine (WX.out _).mono ?_
        rintro e w5 ⟨rfl, hb⟩
        have HB5 := Lib.hid (HB4.out.trans (hb.mono HB4.out.size))
        clear hb
        go_wp2_with fail
        refine (PX.out _ (HT.out.later HB5.out).1).mono ?_
        rintro e w6 ⟨rfl, hb⟩
        have HB6 := Lib.hid (HB5.out.trans (hb.mono HB5.out.size))
        clear hb
        have hb8 := HB6.out.alloc HB6.out.size (.cells #[.int .u64 (rx rx_ k 0), .int .u64 (rx rx_ k 1), .int .u64 (rx rx_ k 2), .int .u64 (rx rx_ k 3), .int .u64 (rx rx_ k 4), .bool (ra rx_ k 2), .bool (ra rx_ k 4)] 24)
        have hr8 := heap_new w6 (.cells #[.int .u64 (rx rx_ k 0), .int .u64 (rx rx_ k 1), .int .u64 (rx rx_ k 2), .int .u64 (rx rx_ k 3), .int .u64 (rx rx_ k 4), .bool (ra rx_ k 2), .bool (ra rx_ k 4)] 24)
        go_wp2_with fail
        generalize w6.alloc (.cells #[.int .u64 (rx rx_ k 0), .int .u64 (rx rx_ k 1), .int .u64 (rx rx_ k 2), .int .u64 (rx rx_ k 3), .int .u64 (rx rx_ k 4), .bool (ra rx_ k 2), .bool (ra rx_ k 4)] 24) = w7 at *
        have HB7 := Lib.hid hb8
        have Rx7 := Lib.hid hr8
        clear hb8 hr8
        refine (WY.out _).mono ?_
        rintro e w8 ⟨rfl, hb⟩
        have HB8 := Lib.hid (HB7.out.trans (hb.mono HB7.out.size))
        have Rx8 := Lib.hid (row_below hb (by have := (Array.getElem?_eq_some_iff.1 Rx7.out).1; omega) Rx7.out)
        clear hb
        go_wp2_with fail
        refine (PY.out _ (HT.out.later HB8.out).1).mono ?_
        rintro e w9 ⟨rfl, hb⟩
        have HB9 := Lib.hid (HB8.out.trans (hb.mono HB8.out.size))
        have Rx9 := Lib.hid (row_below hb (by have := (Array.getElem?_eq_some_iff.1 Rx8.out).1; omega) Rx8.out)
        clear hb
        have hb8 := HB9.out.alloc HB9.out.size (.cells #[.int .u64 (rx ry_ k 0), .int .u64 (rx ry_ k 1), .int .u64 (rx ry_ k 2), .int .u64 (rx ry_ k 3), .int .u64 (rx ry_ k 4), .bool (ra ry_ k 2), .bool (ra ry_ k 4)] 24)
        have hr8 := heap_new w9 (.cells #[.int .u64 (rx ry_ k 0), .int .u64 (rx ry_ k 1), .int .u64 (rx ry_ k 2), .int .u64 (rx ry_ k 3), .int .u64 (rx ry_ k 4), .bool (ra ry_ k 2), .bool (ra ry_ k 4)] 24)
        have hr8x := heap_old (.cells #[.int .u64 (rx ry_ k 0), .int .u64 (rx ry_ k 1), .int .u64 (rx ry_ k 2), .int .u64 (rx ry_ k 3), .int .u64 (rx ry_ k 4), .bool (ra ry_ k 2), .bool (ra ry_ k 4)] 24) (Array.getElem?_eq_some_iff.1 Rx9.out).1 Rx9.out
        go_wp2_with fail
        generalize w9.alloc (.cells #[.int .u64 (rx ry_ k 0), .int .u64 (rx ry_ k 1), .int .u64 (rx ry_ k 2), .int .u64 (rx ry_ k 3), .int .u64 (rx ry_ k 4), .bool (ra ry_ k 2), .bool (ra ry_ k 4)] 24) = w10 at *
        have HB10 := Lib.hid hb8
        have Ry10 := Lib.hid hr8
        have Rx10 := Lib.hid hr8x
        clear hb8 hr8 hr8x
        rw [HZ.out]
        refine (WZ.out _).mono ?_
        rintro e w11 ⟨rfl, hb⟩
        have HB11 := Lib.hid (HB10.out.trans (hb.mono HB10.out.size))
        have Rx11 := Lib.hid (row_below hb (by have := (Array.getElem?_eq_some_iff.1 Rx10.out).1; omega) Rx10.out)
        have Ry11 := Lib.hid (row_below hb (by have := (Array.getElem?_eq_some_iff.1 Ry10.out).1; omega) Ry10.out)
        clear hb
        go_wp2_with fail
        refine (PZ.out _ (HT.out.later HB11.out).1).mono ?_
        rintro e w12 ⟨rfl, hb⟩
        have HB12 := Lib.hid (HB11.out.trans (hb.mono HB11.out.size))
        have Rx12 := Lib.hid (row_below hb (by have := (Array.getElem?_eq_some_iff.1 Rx11.out).1; omega) Rx11.out)
        have Ry12 := Lib.hid (row_below hb (by have := (Array.getElem?_eq_some_iff.1 Ry11.out).1; omega) Ry11.out)
        clear hb
        have hb8 := HB12.out.alloc HB12.out.size (.cells #[.int .u64 (bits .or .u64 (rx rx_ k 0) (rx ry_ k 0)), .int .u64 (bits .or .u64 (rx rx_ k 1) (rx ry_ k 1)), .int .u64 (bits .or .u64 (rx rx_ k 2) (rx ry_ k 2)), .int .u64 (bits .or .u64 (rx rx_ k 3) (rx ry_ k 3)), .int .u64 (bits .or .u64 (rx rx_ k 4) (rx ry_ k 4)), .bool (ra rx_ k 2 || ra ry_ k 2), .bool (ra rx_ k 4 || ra ry_ k 4)] 24)
        have hr8 := heap_new w12 (.cells #[.int .u64 (bits .or .u64 (rx rx_ k 0) (rx ry_ k 0)), .int .u64 (bits .or .u64 (rx rx_ k 1) (rx ry_ k 1)), .int .u64 (bits .or .u64 (rx rx_ k 2) (rx ry_ k 2)), .int .u64 (bits .or .u64 (rx rx_ k 3) (rx ry_ k 3)), .int .u64 (bits .or .u64 (rx rx_ k 4) (rx ry_ k 4)), .bool (ra rx_ k 2 || ra ry_ k 2), .bool (ra rx_ k 4 || ra ry_ k 4)] 24)
        have hr8x := heap_old (.cells #[.int .u64 (bits .or .u64 (rx rx_ k 0) (rx ry_ k 0)), .int .u64 (bits .or .u64 (rx rx_ k 1) (rx ry_ k 1)), .int .u64 (bits .or .u64 (rx rx_ k 2) (rx ry_ k 2)), .int .u64 (bits .or .u64 (rx rx_ k 3) (rx ry_ k 3)), .int .u64 (bits .or .u64 (rx rx_ k 4) (rx ry_ k 4)), .bool (ra rx_ k 2 || ra ry_ k 2), .bool (ra rx_ k 4 || ra ry_ k 4)] 24) (Array.getElem?_eq_some_iff.1 Rx12.out).1 Rx12.out
        have hr8y := heap_old (.cells #[.int .u64 (bits .or .u64 (rx rx_ k 0) (rx ry_ k 0)), .int .u64 (bits .or .u64 (rx rx_ k 1) (rx ry_ k 1)), .int .u64 (bits .or .u64 (rx rx_ k 2) (rx ry_ k 2)), .int .u64 (bits .or .u64 (rx rx_ k 3) (rx ry_ k 3)), .int .u64 (bits .or .u64 (rx rx_ k 4) (rx ry_ k 4)), .bool (ra rx_ k 2 || ra ry_ k 2), .bool (ra rx_ k 4 || ra ry_ k 4)] 24) (Array.getElem?_eq_some_iff.1 Ry12.out).1 Ry12.out
        go_wp2_with fail
        generalize w12.alloc (.cells #[.int .u64 (bits .or .u64 (rx rx_ k 0) (rx ry_ k 0)), .int .u64 (bits .or .u64 (rx rx_ k 1) (rx ry_ k 1)), .int .u64 (bits .or .u64 (rx rx_ k 2) (rx ry_ k 2)), .int .u64 (bits .or .u64 (rx rx_ k 3) (rx ry_ k 3)), .int .u64 (bits .or .u64 (rx rx_ k 4) (rx ry_ k 4)), .bool (ra rx_ k 2 || ra ry_ k 2), .bool (ra rx_ k 4 || ra ry_ k 4)] 24) = w13 at *
        have HB13 := Lib.hid hb8
        have Rz13 := Lib.hid hr8
        have Rx13 := Lib.hid hr8x
        have Ry13 := Lib.hid hr8y
        clear hb8 hr8 hr8x hr8y
        refine (HL.out _ (HT.out.later HB13.out)).mono ?_
        rintro e w14 ⟨rfl, hb⟩
        have HB14 := Lib.hid (HB13.out.trans (hb.mono HB13.out.size))
        obtain ⟨kx, _⟩ := cells_of_heap (row_below hb (Array.getElem?_eq_some_iff.1 Rx13.out).1 Rx13.out)
        obtain ⟨ky, _⟩ := cells_of_heap (row_below hb (Array.getElem?_eq_some_iff.1 Ry13.out).1 Ry13.out)
        obtain ⟨kz, _⟩ := cells_of_heap (row_below hb (Array.getElem?_eq_some_iff.1 Rz13.out).1 Rz13.out)
        clear hb
        go_wp2_with fail
        all_goals (go_ret; exact ⟨ret_bool (by simp), HB14.out⟩)
      · go_enter Tryd.func6, Tryd.ntmps6
        go_wp2_with fail
        refine (FA.out _).mono ?_
        rintro e w1 ⟨⟨v1, rfl, ho⟩, hb⟩
        obtain ⟨p1, c1, rfl⟩ := owns_slice ho
        have HB1 := Lib.hid ((Below.refl w.heap.size w).trans (hb.mono (Below.refl w.heap.size w).size))
        clear ho hb
        go_wp2_with fail
        refine (FB.out _).mono ?_
        rintro e w2 ⟨⟨v2, rfl, ho⟩, hb⟩
        obtain ⟨p2, c2, rfl⟩ := owns_slice ho
        have HB2 := Lib.hid ((HB1.out).trans (hb.mono (HB1.out).size))
        clear ho hb
        go_wp2_with fail
        have HB2' := HB2.out
        refine wp_region_held_drew (S := fun w' => Below w2.heap.size w2 w') hmx (Below.refl _ _).drew (fun hHeld => ?_)
        refine wpAnyH_take (i := 0) (v := ?v9) rfl (by kernel_rfl) (by kernel_rfl) (by kernel_rfl) (fun _ _ _ h => h) (Or.inl ⟨by rfl, ?hy9⟩) hHeld ?rest9
        case hy9 => (intro w' hSw; go_simp; try with_reducible rfl)
        try simp only [Act.put, List.setIfInBounds_toArray, List.set_cons_zero, List.set_cons_succ, List.getElem_toArray, List.getElem_cons_succ, List.getElem_cons_zero]
        refine wpAnyH_take (i := 4) (v := ?v10) rfl (by kernel_rfl) (by kernel_rfl) (by kernel_rfl) (fun _ _ _ h => h) (Or.inl ⟨by rfl, ?hy10⟩) hHeld ?rest10
        case hy10 => (intro w' hSw; go_simp; try with_reducible rfl)
        try simp only [Act.put, List.setIfInBounds_toArray, List.set_cons_zero, List.set_cons_succ, List.getElem_toArray, List.getElem_cons_succ, List.getElem_cons_zero]
        refine wpAnyH_ready (rs := [1]) (by kernel_rfl) (by simp) ?_
        refine AllReadyH.cons rfl (fun K hK => ?_) AllReadyH.nil
        go_simp
        go_at_call 17
        refine Calls.mono (FA.out _) ?_
        rintro e w3 ⟨⟨v3, rfl, ho⟩, hb⟩
        obtain ⟨g3, c3, rfl, cx, hg3, hlt3⟩ := owns_one ho
        go_wp2_with fail
        have hB3 : Below w2.heap.size w2 w3 := (Below.refl _ _).drew.trans hb
        refine hK.out _ _ hB3 (fun hHeld2 => ?_)
        clear hK K hb hHeld ho hHeld2
        try simp only [Act.put, List.setIfInBounds_toArray, List.set_cons_zero, List.set_cons_succ, List.getElem_toArray, List.getElem_cons_succ, List.getElem_cons_zero]
        refine wpAnyH_imp (S' := fun w' => w'.cell? ⟨g3, 0, none⟩ = some (.string ⟨x.toArray⟩) ∧ Below w2.heap.size w2 w') (fun _ h => h.2) _ _ _ _ ?_
        have hHeld : w3.cell? ⟨g3, 0, none⟩ = some (.string ⟨x.toArray⟩) ∧ Below w2.heap.size w2 w3 := ⟨cx, hB3⟩
        refine wpAnyH_take (i := 2) (v := ?v11) rfl (by kernel_rfl) (by kernel_rfl) (by kernel_rfl) (fun _ _ _ h => h) (Or.inl ⟨by rfl, ?hy11⟩) hHeld ?rest11
        case hy11 => (intro w' hSw; go_simp; try with_reducible rfl)
        try simp only [Act.put, List.setIfInBounds_toArray, List.set_cons_zero, List.set_cons_succ, List.getElem_toArray, List.getElem_cons_succ, List.getElem_cons_zero]
        refine wpAnyH_take (i := 3) (v := ?v12) rfl (by kernel_rfl) (by kernel_rfl) (by kernel_rfl) (fun _ _ _ h => h) (Or.inl ⟨by rfl, ?hy12⟩) hHeld ?rest12
        case hy12 => (intro w' hSw; go_simp; try with_reducible rfl)
        try simp only [Act.put, List.setIfInBounds_toArray, List.set_cons_zero, List.set_cons_succ, List.getElem_toArray, List.getElem_cons_succ, List.getElem_cons_zero]
        refine wpAnyH_ready (rs := [5]) (by kernel_rfl) (by simp) ?_
        refine AllReadyH.cons rfl (fun K hK => ?_) AllReadyH.nil
        go_simp
        go_at_call 17
        refine Calls.mono (FB.out _) ?_
        rintro e w4 ⟨⟨v4, rfl, ho⟩, hb⟩
        obtain ⟨g4, c4, rfl, cy, hg4, hlt4⟩ := owns_one ho
        go_wp2_with fail
        have hB4 : Below w2.heap.size w2 w4 := hB3.trans (hb.mono hB3.size)
        refine hK.out _ _ ⟨(hb.cell hlt3).trans cx, hB4⟩ (fun hHeld2 => ?_)
        have hcx4 := (hb.cell hlt3).trans cx
        clear hK K hb hHeld ho hHeld2 cx hB3
        try simp only [Act.put, List.setIfInBounds_toArray, List.set_cons_zero, List.set_cons_succ, List.getElem_toArray, List.getElem_cons_succ, List.getElem_cons_zero]
        refine wpAnyH_imp (S' := fun w' => w'.cell? ⟨g4, 0, none⟩ = some (.string ⟨y.toArray⟩) ∧ w'.cell? ⟨g3, 0, none⟩ = some (.string ⟨x.toArray⟩) ∧ Below w2.heap.size w2 w') (fun _ h => h.2) _ _ _ _ ?_
        have hHeld : w4.cell? ⟨g4, 0, none⟩ = some (.string ⟨y.toArray⟩) ∧ w4.cell? ⟨g3, 0, none⟩ = some (.string ⟨x.toArray⟩) ∧ Below w2.heap.size w2 w4 := ⟨cy, hcx4, hB4⟩
        refine wpAnyH_take (i := 6) (v := ?v13) rfl (by kernel_rfl) (by kernel_rfl) (by kernel_rfl) (fun _ _ _ h => h) (Or.inl ⟨by rfl, ?hy13⟩) hHeld ?rest13
        case hy13 => (intro w' hSw; go_simp; try with_reducible rfl)
        try simp only [Act.put, List.setIfInBounds_toArray, List.set_cons_zero, List.set_cons_succ, List.getElem_toArray, List.getElem_cons_succ, List.getElem_cons_zero]
        refine wpAnyH_take (i := 7) (v := ?v14) rfl (by kernel_rfl) (by kernel_rfl) (by kernel_rfl) (fun _ _ _ h => h) (Or.inl ⟨by rfl, ?hy14⟩) hHeld ?rest14
        case hy14 => (intro w' hSw; go_simp; try with_reducible rfl)
        try simp only [Act.put, List.setIfInBounds_toArray, List.set_cons_zero, List.set_cons_succ, List.getElem_toArray, List.getElem_cons_succ, List.getElem_cons_zero]
        refine wpAnyH_take (i := 8) (v := ?v15) rfl (by kernel_rfl) (by kernel_rfl) (by kernel_rfl) (fun _ _ _ h => h) (Or.inl ⟨by rfl, ?hy15⟩) hHeld ?rest15
        case hy15 => (intro w' hSw; go_simp; try with_reducible rfl)
        try simp only [Act.put, List.setIfInBounds_toArray, List.set_cons_zero, List.set_cons_succ, List.getElem_toArray, List.getElem_cons_succ, List.getElem_cons_zero]
        refine wpAnyH_take (i := 9) (v := ?v16) rfl (by kernel_rfl) (by kernel_rfl) (by kernel_rfl) (fun _ _ _ h => h) (Or.inl ⟨by rfl, ?hy16⟩) hHeld ?rest16
        case hy16 => (intro w' hSw; go_simp; try with_reducible rfl)
        try simp only [Act.put, List.setIfInBounds_toArray, List.set_cons_zero, List.set_cons_succ, List.getElem_toArray, List.getElem_cons_succ, List.getElem_cons_zero]
        refine wpAnyH_done (by kernel_rfl) ?_ _
        have HB4 := Lib.hid (HB2.out.trans (hB4.mono HB2.out.size))
        clear hHeld cy hcx4 hB4 HB2' hg3 hg4 hlt3 hlt4
        go_wp2_with fail
        refine (WX.out _).mono ?_
        rintro e w5 ⟨rfl, hb⟩
        have HB5 := Lib.hid (HB4.out.trans (hb.mono HB4.out.size))
        clear hb
        go_wp2_with fail
        refine (PX.out _ (HT.out.later HB5.out).1).mono ?_
        rintro e w6 ⟨rfl, hb⟩
        have HB6 := Lib.hid (HB5.out.trans (hb.mono HB5.out.size))
        clear hb
        have hb8 := HB6.out.alloc HB6.out.size (.cells #[.int .u64 (rx rx_ k 0), .int .u64 (rx rx_ k 1), .int .u64 (rx rx_ k 2), .int .u64 (rx rx_ k 3), .int .u64 (rx rx_ k 4), .bool (ra rx_ k 2), .bool (ra rx_ k 4)] 24)
        have hr8 := heap_new w6 (.cells #[.int .u64 (rx rx_ k 0), .int .u64 (rx rx_ k 1), .int .u64 (rx rx_ k 2), .int .u64 (rx rx_ k 3), .int .u64 (rx rx_ k 4), .bool (ra rx_ k 2), .bool (ra rx_ k 4)] 24)
        go_wp2_with fail
        generalize w6.alloc (.cells #[.int .u64 (rx rx_ k 0), .int .u64 (rx rx_ k 1), .int .u64 (rx rx_ k 2), .int .u64 (rx rx_ k 3), .int .u64 (rx rx_ k 4), .bool (ra rx_ k 2), .bool (ra rx_ k 4)] 24) = w7 at *
        have HB7 := Lib.hid hb8
        have Rx7 := Lib.hid hr8
        clear hb8 hr8
        refine (WY.out _).mono ?_
        rintro e w8 ⟨rfl, hb⟩
        have HB8 := Lib.hid (HB7.out.trans (hb.mono HB7.out.size))
        have Rx8 := Lib.hid (row_below hb (by have := (Array.getElem?_eq_some_iff.1 Rx7.out).1; omega) Rx7.out)
        clear hb
        go_wp2_with fail
        refine (PY.out _ (HT.out.later HB8.out).1).mono ?_
        rintro e w9 ⟨rfl, hb⟩
        have HB9 := Lib.hid (HB8.out.trans (hb.mono HB8.out.size))
        have Rx9 := Lib.hid (row_below hb (by have := (Array.getElem?_eq_some_iff.1 Rx8.out).1; omega) Rx8.out)
        clear hb
        have hb8 := HB9.out.alloc HB9.out.size (.cells #[.int .u64 (rx ry_ k 0), .int .u64 (rx ry_ k 1), .int .u64 (rx ry_ k 2), .int .u64 (rx ry_ k 3), .int .u64 (rx ry_ k 4), .bool (ra ry_ k 2), .bool (ra ry_ k 4)] 24)
        have hr8 := heap_new w9 (.cells #[.int .u64 (rx ry_ k 0), .int .u64 (rx ry_ k 1), .int .u64 (rx ry_ k 2), .int .u64 (rx ry_ k 3), .int .u64 (rx ry_ k 4), .bool (ra ry_ k 2), .bool (ra ry_ k 4)] 24)
        have hr8x := heap_old (.cells #[.int .u64 (rx ry_ k 0), .int .u64 (rx ry_ k 1), .int .u64 (rx ry_ k 2), .int .u64 (rx ry_ k 3), .int .u64 (rx ry_ k 4), .bool (ra ry_ k 2), .bool (ra ry_ k 4)] 24) (Array.getElem?_eq_some_iff.1 Rx9.out).1 Rx9.out
        go_wp2_with fail
        generalize w9.alloc (.cells #[.int .u64 (rx ry_ k 0), .int .u64 (rx ry_ k 1), .int .u64 (rx ry_ k 2), .int .u64 (rx ry_ k 3), .int .u64 (rx ry_ k 4), .bool (ra ry_ k 2), .bool (ra ry_ k 4)] 24) = w10 at *
        have HB10 := Lib.hid hb8
        have Ry10 := Lib.hid hr8
        have Rx10 := Lib.hid hr8x
        clear hb8 hr8 hr8x
        rw [HZ.out]
        refine (WZ.out _).mono ?_
        rintro e w11 ⟨rfl, hb⟩
        have HB11 := Lib.hid (HB10.out.trans (hb.mono HB10.out.size))
        have Rx11 := Lib.hid (row_below hb (by have := (Array.getElem?_eq_some_iff.1 Rx10.out).1; omega) Rx10.out)
        have Ry11 := Lib.hid (row_below hb (by have := (Array.getElem?_eq_some_iff.1 Ry10.out).1; omega) Ry10.out)
        clear hb
        go_wp2_with fail
        refine (PZ.out _ (HT.out.later HB11.out).1).mono ?_
        rintro e w12 ⟨rfl, hb⟩
        have HB12 := Lib.hid (HB11.out.trans (hb.mono HB11.out.size))
        have Rx12 := Lib.hid (row_below hb (by have := (Array.getElem?_eq_some_iff.1 Rx11.out).1; omega) Rx11.out)
        have Ry12 := Lib.hid (row_below hb (by have := (Array.getElem?_eq_some_iff.1 Ry11.out).1; omega) Ry11.out)
        clear hb
        have hb8 := HB12.out.alloc HB12.out.size (.cells #[.int .u64 (bits .or .u64 (rx rx_ k 0) (rx ry_ k 0)), .int .u64 (bits .or .u64 (rx rx_ k 1) (rx ry_ k 1)), .int .u64 (bits .or .u64 (rx rx_ k 2) (rx ry_ k 2)), .int .u64 (bits .or .u64 (rx rx_ k 3) (rx ry_ k 3)), .int .u64 (bits .or .u64 (rx rx_ k 4) (rx ry_ k 4)), .bool (ra rx_ k 2 || ra ry_ k 2), .bool (ra rx_ k 4 || ra ry_ k 4)] 24)
        have hr8 := heap_new w12 (.cells #[.int .u64 (bits .or .u64 (rx rx_ k 0) (rx ry_ k 0)), .int .u64 (bits .or .u64 (rx rx_ k 1) (rx ry_ k 1)), .int .u64 (bits .or .u64 (rx rx_ k 2) (rx ry_ k 2)), .int .u64 (bits .or .u64 (rx rx_ k 3) (rx ry_ k 3)), .int .u64 (bits .or .u64 (rx rx_ k 4) (rx ry_ k 4)), .bool (ra rx_ k 2 || ra ry_ k 2), .bool (ra rx_ k 4 || ra ry_ k 4)] 24)
        have hr8x := heap_old (.cells #[.int .u64 (bits .or .u64 (rx rx_ k 0) (rx ry_ k 0)), .int .u64 (bits .or .u64 (rx rx_ k 1) (rx ry_ k 1)), .int .u64 (bits .or .u64 (rx rx_ k 2) (rx ry_ k 2)), .int .u64 (bits .or .u64 (rx rx_ k 3) (rx ry_ k 3)), .int .u64 (bits .or .u64 (rx rx_ k 4) (rx ry_ k 4)), .bool (ra rx_ k 2 || ra ry_ k 2), .bool (ra rx_ k 4 || ra ry_ k 4)] 24) (Array.getElem?_eq_some_iff.1 Rx12.out).1 Rx12.out
        have hr8y := heap_old (.cells #[.int .u64 (bits .or .u64 (rx rx_ k 0) (rx ry_ k 0)), .int .u64 (bits .or .u64 (rx rx_ k 1) (rx ry_ k 1)), .int .u64 (bits .or .u64 (rx rx_ k 2) (rx ry_ k 2)), .int .u64 (bits .or .u64 (rx rx_ k 3) (rx ry_ k 3)), .int .u64 (bits .or .u64 (rx rx_ k 4) (rx ry_ k 4)), .bool (ra rx_ k 2 || ra ry_ k 2), .bool (ra rx_ k 4 || ra ry_ k 4)] 24) (Array.getElem?_eq_some_iff.1 Ry12.out).1 Ry12.out
        go_wp2_with fail
        generalize w12.alloc (.cells #[.int .u64 (bits .or .u64 (rx rx_ k 0) (rx ry_ k 0)), .int .u64 (bits .or .u64 (rx rx_ k 1) (rx ry_ k 1)), .int .u64 (bits .or .u64 (rx rx_ k 2) (rx ry_ k 2)), .int .u64 (bits .or .u64 (rx rx_ k 3) (rx ry_ k 3)), .int .u64 (bits .or .u64 (rx rx_ k 4) (rx ry_ k 4)), .bool (ra rx_ k 2 || ra ry_ k 2), .bool (ra rx_ k 4 || ra ry_ k 4)] 24) = w13 at *
        have HB13 := Lib.hid hb8
        have Rz13 := Lib.hid hr8
        have Rx13 := Lib.hid hr8x
        have Ry13 := Lib.hid hr8y
        clear hb8 hr8 hr8x hr8y
        refine (HL.out _ (HT.out.later HB13.out)).mono ?_
        rintro e w14 ⟨rfl, hb⟩
        have HB14 := Lib.hid (HB13.out.trans (hb.mono HB13.out.size))
        obtain ⟨kx, _⟩ := cells_of_heap (row_below hb (Array.getElem?_eq_some_iff.1 Rx13.out).1 Rx13.out)
        obtain ⟨ky, _⟩ := cells_of_heap (row_below hb (Array.getElem?_eq_some_iff.1 Ry13.out).1 Ry13.out)
        obtain ⟨kz, _⟩ := cells_of_heap (row_below hb (Array.getElem?_eq_some_iff.1 Rz13.out).1 Rz13.out)
        clear hb
        go_wp2_with fail
        all_goals (go_ret; exact ⟨ret_bool (by simp), HB14.out⟩)
    · obtain ⟨hez, hnz⟩ := HBAD.out (.inr hey)
      have he1 : (re ry_ == 0) = false := by simpa using hey
      have he2 : (re rz == 0) = false := by simpa using hez
      have he3 : (re ry_ != 0) = true := by simpa using hey
      have he4 : (re rz != 0) = true := by simpa using hez
      rw [hex] at PX
      rw [hnz] at PZ
      clear HGOOD HBAD hnz hex
      rcases hkv with ⟨hn, hkv⟩ | ⟨hn, hkv⟩
      · go_enter Tryd.func6, Tryd.ntmps6
        go_wp2_with fail
        refine (FA.out _).mono ?_
        rintro e w1 ⟨⟨v1, rfl, ho⟩, hb⟩
        obtain ⟨p1, c1, rfl⟩ := owns_slice ho
        have HB1 := Lib.hid ((Below.refl w.heap.size w).trans (hb.mono (Below.refl w.heap.size w).size))
        clear ho hb
        go_wp2_with fail
        refine (FB.out _).mono ?_
        rintro e w2 ⟨⟨v2, rfl, ho⟩, hb⟩
        obtain ⟨p2, c2, rfl⟩ := owns_slice ho
        have HB2 := Lib.hid ((HB1.out).trans (hb.mono (HB1.out).size))
        clear ho hb
        go_wp2_with fail
        have HB2' := HB2.out
        refine wp_region_held_drew (S := fun w' => Below w2.heap.size w2 w') hmx (Below.refl _ _).drew (fun hHeld => ?_)
        refine wpAnyH_take (i := 0) (v := ?v17) rfl (by kernel_rfl) (by kernel_rfl) (by kernel_rfl) (fun _ _ _ h => h) (Or.inl ⟨by rfl, ?hy17⟩) hHeld ?rest17
        case hy17 => (intro w' hSw; go_simp; try with_reducible rfl)
        try simp only [Act.put, List.setIfInBounds_toArray, List.set_cons_zero, List.set_cons_succ, List.getElem_toArray, List.getElem_cons_succ, List.getElem_cons_zero]
        refine wpAnyH_take (i := 4) (v := ?v18) rfl (by kernel_rfl) (by kernel_rfl) (by kernel_rfl) (fun _ _ _ h => h) (Or.inl ⟨by rfl, ?hy18⟩) hHeld ?rest18
        case hy18 => (intro w' hSw; go_simp; try with_reducible rfl)
        try simp only [Act.put, List.setIfInBounds_toArray, List.set_cons_zero, List.set_cons_succ, List.getElem_toArray, List.getElem_cons_succ, List.getElem_cons_zero]
        refine wpAnyH_ready (rs := [1]) (by kernel_rfl) (by simp) ?_
        refine AllReadyH.cons rfl (fun K hK => ?_) AllReadyH.nil
        go_simp
        go_at_call 17
        refine Calls.mono (FA.out _) ?_
        rintro e w3 ⟨⟨v3, rfl, ho⟩, hb⟩
        obtain ⟨g3, c3, rfl, cx, hg3, hlt3⟩ := owns_one ho
        go_wp2_with fail
        have hB3 : Below w2.heap.size w2 w3 := (Below.refl _ _).drew.trans hb
        refine hK.out _ _ hB3 (fun hHeld2 => ?_)
        clear hK K hb hHeld ho hHeld2
        try simp only [Act.put, List.setIfInBounds_toArray, List.set_cons_zero, List.set_cons_succ, List.getElem_toArray, List.getElem_cons_succ, List.getElem_cons_zero]
        refine wpAnyH_imp (S' := fun w' => w'.cell? ⟨g3, 0, none⟩ = some (.string ⟨x.toArray⟩) ∧ Below w2.heap.size w2 w') (fun _ h => h.2) _ _ _ _ ?_
        have hHeld : w3.cell? ⟨g3, 0, none⟩ = some (.string ⟨x.toArray⟩) ∧ Below w2.heap.size w2 w3 := ⟨cx, hB3⟩
        refine wpAnyH_take (i := 2) (v := ?v19) rfl (by kernel_rfl) (by kernel_rfl) (by kernel_rfl) (fun _ _ _ h => h) (Or.inl ⟨by rfl, ?hy19⟩) hHeld ?rest19
        case hy19 => (intro w' hSw; go_simp; try with_reducible rfl)
        try simp only [Act.put, List.setIfInBounds_toArray, List.set_cons_zero, List.set_cons_succ, List.getElem_toArray, List.getElem_cons_succ, List.getElem_cons_zero]
        refine wpAnyH_take (i := 3) (v := ?v20) rfl (by kernel_rfl) (by kernel_rfl) (by kernel_rfl) (fun _ _ _ h => h) (Or.inl ⟨by rfl, ?hy20⟩) hHeld ?rest20
        case hy20 => (intro w' hSw; go_simp; try with_reducible rfl)
        try simp only [Act.put, List.setIfInBounds_toArray, List.set_cons_zero, List.set_cons_succ, List.getElem_toArray, List.getElem_cons_succ, List.getElem_cons_zero]
        refine wpAnyH_ready (rs := [5]) (by kernel_rfl) (by simp) ?_
        refine AllReadyH.cons rfl (fun K hK => ?_) AllReadyH.nil
        go_simp
        go_at_call 17
        refine Calls.mono (FB.out _) ?_
        rintro e w4 ⟨⟨v4, rfl, ho⟩, hb⟩
        obtain ⟨g4, c4, rfl, cy, hg4, hlt4⟩ := owns_one ho
        go_wp2_with fail
        have hB4 : Below w2.heap.size w2 w4 := hB3.trans (hb.mono hB3.size)
        refine hK.out _ _ ⟨(hb.cell hlt3).trans cx, hB4⟩ (fun hHeld2 => ?_)
        have hcx4 := (hb.cell hlt3).trans cx
        clear hK K hb hHeld ho hHeld2 cx hB3
        try simp only [Act.put, List.setIfInBounds_toArray, List.set_cons_zero, List.set_cons_succ, List.getElem_toArray, List.getElem_cons_succ, List.getElem_cons_zero]
        refine wpAnyH_imp (S' := fun w' => w'.cell? ⟨g4, 0, none⟩ = some (.string ⟨y.toArray⟩) ∧ w'.cell? ⟨g3, 0, none⟩ = some (.string ⟨x.toArray⟩) ∧ Below w2.heap.size w2 w') (fun _ h => h.2) _ _ _ _ ?_
        have hHeld : w4.cell? ⟨g4, 0, none⟩ = some (.string ⟨y.toArray⟩) ∧ w4.cell? ⟨g3, 0, none⟩ = some (.string ⟨x.toArray⟩) ∧ Below w2.heap.size w2 w4 := ⟨cy, hcx4, hB4⟩
        refine wpAnyH_take (i := 6) (v := ?v21) rfl (by kernel_rfl) (by kernel_rfl) (by kernel_rfl) (fun _ _ _ h => h) (Or.inl ⟨by rfl, ?hy21⟩) hHeld ?rest21
        case hy21 => (intro w' hSw; go_simp; try with_reducible rfl)
        try simp only [Act.put, List.setIfInBounds_toArray, List.set_cons_zero, List.set_cons_succ, List.getElem_toArray, List.getElem_cons_succ, List.getElem_cons_zero]
        refine wpAnyH_take (i := 7) (v := ?v22) rfl (by kernel_rfl) (by kernel_rfl) (by kernel_rfl) (fun _ _ _ h => h) (Or.inl ⟨by rfl, ?hy22⟩) hHeld ?rest22
        case hy22 => (intro w' hSw; go_simp; try with_reducible rfl)
        try simp only [Act.put, List.setIfInBounds_toArray, List.set_cons_zero, List.set_cons_succ, List.getElem_toArray, List.getElem_cons_succ, List.getElem_cons_zero]
        refine wpAnyH_take (i := 8) (v := ?v23) rfl (by kernel_rfl) (by kernel_rfl) (by kernel_rfl) (fun _ _ _ h => h) (Or.inl ⟨by rfl, ?hy23⟩) hHeld ?rest23
        case hy23 => (intro w' hSw; go_simp; try with_reducible rfl)
        try simp only [Act.put, List.setIfInBounds_toArray, List.set_cons_zero, List.set_cons_succ, List.getElem_toArray, List.getElem_cons_succ, List.getElem_cons_zero]
        refine wpAnyH_take (i := 9) (v := ?v24) rfl (by kernel_rfl) (by kernel_rfl) (by kernel_rfl) (fun _ _ _ h => h) (Or.inl ⟨by rfl, ?hy24⟩) hHeld ?rest24
        case hy24 => (intro w' hSw; go_simp; try with_reducible rfl)
        try simp only [Act.put, List.setIfInBounds_toArray, List.set_cons_zero, List.set_cons_succ, List.getElem_toArray, List.getElem_cons_succ, List.getElem_cons_zero]
        refine wpAnyH_done (by kernel_rfl) ?_ _
        have HB4 := Lib.hid (HB2.out.trans (hB4.mono HB2.out.size))
        clear hHeld cy hcx4 hB4 HB2' hg3 hg4 hlt3 hlt4
        go_wp2_with fail
        refine (WX.out _).mono ?_
        rintro e w5 ⟨rfl, hb⟩
        have HB5 := Lib.hid (HB4.out.trans (hb.mono HB4.out.size))
        clear hb
        go_wp2_with fail
        refine (PX.out _ (HT.out.later HB5.out).1).mono ?_
        rintro e w6 ⟨rfl, hb⟩
        have HB6 := Lib.hid (HB5.out.trans (hb.mono HB5.out.size))
        clear hb
        have hb8 := HB6.out.alloc HB6.out.size (.cells #[.int .u64 (rx rx_ k 0), .int .u64 (rx rx_ k 1), .int .u64 (rx rx_ k 2), .int .u64 (rx rx_ k 3), .int .u64 (rx rx_ k 4), .bool (ra rx_ k 2), .bool (ra rx_ k 4)] 24)
        have hr8 := heap_new w6 (.cells #[.int .u64 (rx rx_ k 0), .int .u64 (rx rx_ k 1), .int .u64 (rx rx_ k 2), .int .u64 (rx rx_ k 3), .int .u64 (rx rx_ k 4), .bool (ra rx_ k 2), .bool (ra rx_ k 4)] 24)
        go_wp2_with fail
        generalize w6.alloc (.cells #[.int .u64 (rx rx_ k 0), .int .u64 (rx rx_ k 1), .int .u64 (rx rx_ k 2), .int .u64 (rx rx_ k 3), .int .u64 (rx rx_ k 4), .bool (ra rx_ k 2), .bool (ra rx_ k 4)] 24) = w7 at *
        have HB7 := Lib.hid hb8
        have Rx7 := Lib.hid hr8
        clear hb8 hr8
        refine (WY.out _).mono ?_
        rintro e w8 ⟨rfl, hb⟩
        have HB8 := Lib.hid (HB7.out.trans (hb.mono HB7.out.size))
        have Rx8 := Lib.hid (row_below hb (by have := (Array.getElem?_eq_some_iff.1 Rx7.out).1; omega) Rx7.out)
        clear hb
        go_wp2_with fail
        refine (PY.out _ (HT.out.later HB8.out).1).mono ?_
        rintro e w9 ⟨rfl, hb⟩
        have HB9 := Lib.hid (HB8.out.trans (hb.mono HB8.out.size))
        have Rx9 := Lib.hid (row_below hb (by have := (Array.getElem?_eq_some_iff.1 Rx8.out).1; omega) Rx8.out)
        clear hb
        have hb8 := HB9.out.alloc HB9.out.size (.cells #[.int .u64 (rx ry_ k 0), .int .u64 (rx ry_ k 1), .int .u64 (rx ry_ k 2), .int .u64 (rx ry_ k 3), .int .u64 (rx ry_ k 4), .bool (ra ry_ k 2), .bool (ra ry_ k 4)] 24)
        have hr8 := heap_new w9 (.cells #[.int .u64 (rx ry_ k 0), .int .u64 (rx ry_ k 1), .int .u64 (rx ry_ k 2), .int .u64 (rx ry_ k 3), .int .u64 (rx ry_ k 4), .bool (ra ry_ k 2), .bool (ra ry_ k 4)] 24)
        have hr8x := heap_old (.cells #[.int .u64 (rx ry_ k 0), .int .u64 (rx ry_ k 1), .int .u64 (rx ry_ k 2), .int .u64 (rx ry_ k 3), .int .u64 (rx ry_ k 4), .bool (ra ry_ k 2), .bool (ra ry_ k 4)] 24) (Array.getElem?_eq_some_iff.1 Rx9.out).1 Rx9.out
        go_wp2_with fail
        generalize w9.alloc (.cells #[.int .u64 (rx ry_ k 0), .int .u64 (rx ry_ k 1), .int .u64 (rx ry_ k 2), .int .u64 (rx ry_ k 3), .int .u64 (rx ry_ k 4), .bool (ra ry_ k 2), .bool (ra ry_ k 4)] 24) = w10 at *
        have HB10 := Lib.hid hb8
        have Ry10 := Lib.hid hr8
        have Rx10 := Lib.hid hr8x
        clear hb8 hr8 hr8x
        rw [HZ.out]
        refine (WZ.out _).mono ?_
        rintro e w11 ⟨rfl, hb⟩
        have HB11 := Lib.hid (HB10.out.trans (hb.mono HB10.out.size))
        have Rx11 := Lib.hid (row_below hb (by have := (Array.getElem?_eq_some_iff.1 Rx10.out).1; omega) Rx10.out)
        have Ry11 := Lib.hid (row_below hb (by have := (Array.getElem?_eq_some_iff.1 Ry10.out).1; omega) Ry10.out)
        clear hb
        go_wp2_with fail
        refine (PZ.out _ (HT.out.later HB11.out).1).mono ?_
        rintro e w12 ⟨rfl, hb⟩
        have HB12 := Lib.hid (HB11.out.trans (hb.mono HB11.out.size))
        have Rx12 := Lib.hid (row_below hb (by have := (Array.getElem?_eq_some_iff.1 Rx11.out).1; omega) Rx11.out)
        have Ry12 := Lib.hid (row_below hb (by have := (Array.getElem?_eq_some_iff.1 Ry11.out).1; omega) Ry11.out)
        clear hb
        have hb8 := HB12.out.alloc HB12.out.size (.cells #[.int .u64 (rx rz k 0), .int .u64 (rx rz k 1), .int .u64 (rx rz k 2), .int .u64 (rx rz k 3), .int .u64 (rx rz k 4), .bool (ra rz k 2), .bool (ra rz k 4)] 24)
        have hr8 := heap_new w12 (.cells #[.int .u64 (rx rz k 0), .int .u64 (rx rz k 1), .int .u64 (rx rz k 2), .int .u64 (rx rz k 3), .int .u64 (rx rz k 4), .bool (ra rz k 2), .bool (ra rz k 4)] 24)
        have hr8x := heap_old (.cells #[.int .u64 (rx rz k 0), .int .u64 (rx rz k 1), .int .u64 (rx rz k 2), .int .u64 (rx rz k 3), .int .u64 (rx rz k 4), .bool (ra rz k 2), .bool (ra rz k 4)] 24) (Array.getElem?_eq_some_iff.1 Rx12.out).1 Rx12.out
        have hr8y := heap_old (.cells #[.int .u64 (rx rz k 0), .int .u64 (rx rz k 1), .int .u64 (rx rz k 2), .int .u64 (rx rz k 3), .int .u64 (rx rz k 4), .bool (ra rz k 2), .bool (ra rz k 4)] 24) (Array.getElem?_eq_some_iff.1 Ry12.out).1 Ry12.out
        go_wp2_with fail
        generalize w12.alloc (.cells #[.int .u64 (rx rz k 0), .int .u64 (rx rz k 1), .int .u64 (rx rz k 2), .int .u64 (rx rz k 3), .int .u64 (rx rz k 4), .bool (ra rz k 2), .bool (ra rz k 4)] 24) = w13 at *
        have HB13 := Lib.hid hb8
        have Rz13 := Lib.hid hr8
        have Rx13 := Lib.hid hr8x
        have Ry13 := Lib.hid hr8y
        clear hb8 hr8 hr8x hr8y
        refine (HL.out _ (HT.out.later HB13.out)).mono ?_
        rintro e w14 ⟨rfl, hb⟩
        have HB14 := Lib.hid (HB13.out.trans (hb.mono HB13.out.size))
        obtain ⟨kx, _⟩ := cells_of_heap (row_below hb (Array.getElem?_eq_some_iff.1 Rx13.out).1 Rx13.out)
        obtain ⟨ky, _⟩ := cells_of_heap (row_below hb (Array.getElem?_eq_some_iff.1 Ry13.out).1 Ry13.out)
        obtain ⟨kz, _⟩ := cells_of_heap (row_below hb (Array.getElem?_eq_some_iff.1 Rz13.out).1 Rz13.out)
        clear hb
        go_wp2_with fail
        all_goals (go_ret; exact ⟨ret_bool (by simp), HB14.out⟩)
      · go_enter Tryd.func6, Tryd.ntmps6
        go_wp2_with fail
        refine (FA.out _).mono ?_
        rintro e w1 ⟨⟨v1, rfl, ho⟩, hb⟩
        obtain ⟨p1, c1, rfl⟩ := owns_slice ho
        have HB1 := Lib.hid ((Below.refl w.heap.size w).trans (hb.mono (Below.refl w.heap.size w).size))
        clear ho hb
        go_wp2_with fail
        refine (FB.out _).mono ?_
        rintro e w2 ⟨⟨v2, rfl, ho⟩, hb⟩
        obtain ⟨p2, c2, rfl⟩ := owns_slice ho
        have HB2 := Lib.hid ((HB1.out).trans (hb.mono (HB1.out).size))
        clear ho hb
        go_wp2_with fail
        have HB2' := HB2.out
        refine wp_region_held_drew (S := fun w' => Below w2.heap.size w2 w') hmx (Below.refl _ _).drew (fun hHeld => ?_)
        refine wpAnyH_take (i := 0) (v := ?v25) rfl (by kernel_rfl) (by kernel_rfl) (by kernel_rfl) (fun _ _ _ h => h) (Or.inl ⟨by rfl, ?hy25⟩) hHeld ?rest25
        case hy25 => (intro w' hSw; go_simp; try with_reducible rfl)
        try simp only [Act.put, List.setIfInBounds_toArray, List.set_cons_zero, List.set_cons_succ, List.getElem_toArray, List.getElem_cons_succ, List.getElem_cons_zero]
        refine wpAnyH_take (i := 4) (v := ?v26) rfl (by kernel_rfl) (by kernel_rfl) (by kernel_rfl) (fun _ _ _ h => h) (Or.inl ⟨by rfl, ?hy26⟩) hHeld ?rest26
        case hy26 => (intro w' hSw; go_simp; try with_reducible rfl)
        try simp only [Act.put, List.setIfInBounds_toArray, List.set_cons_zero, List.set_cons_succ, List.getElem_toArray, List.getElem_cons_succ, List.getElem_cons_zero]
        refine wpAnyH_ready (rs := [1]) (by kernel_rfl) (by simp) ?_
        refine AllReadyH.cons rfl (fun K hK => ?_) AllReadyH.nil
        go_simp
        go_at_call 17
        refine Calls.mono (FA.out _) ?_
        rintro e w3 ⟨⟨v3, rfl, ho⟩, hb⟩
        obtain ⟨g3, c3, rfl, cx, hg3, hlt3⟩ := owns_one ho
        go_wp2_with fail
        have hB3 : Below w2.heap.size w2 w3 := (Below.refl _ _).drew.trans hb
        refine hK.out _ _ hB3 (fun hHeld2 => ?_)
        clear hK K hb hHeld ho hHeld2
        try simp only [Act.put, List.setIfInBounds_toArray, List.set_cons_zero, List.set_cons_succ, List.getElem_toArray, List.getElem_cons_succ, List.getElem_cons_zero]
        refine wpAnyH_imp (S' := fun w' => w'.cell? ⟨g3, 0, none⟩ = some (.string ⟨x.toArray⟩) ∧ Below w2.heap.size w2 w') (fun _ h => h.2) _ _ _ _ ?_
        have hHeld : w3.cell? ⟨g3, 0, none⟩ = some (.string ⟨x.toArray⟩) ∧ Below w2.heap.size w2 w3 := ⟨cx, hB3⟩
        refine wpAnyH_take (i := 2) (v := ?v27) rfl (by kernel_rfl) (by kernel_rfl) (by kernel_rfl) (fun _ _ _ h => h) (Or.inl ⟨by rfl, ?hy27⟩) hHeld ?rest27
        case hy27 => (intro w' hSw; go_simp; try with_reducible rfl)
        try simp only [Act.put, List.setIfInBounds_toArray, List.set_cons_zero, List.set_cons_succ, List.getElem_toArray, List.getElem_cons_succ, List.getElem_cons_zero]
        refine wpAnyH_take (i := 3) (v := ?v28) rfl (by kernel_rfl) (by kernel_rfl) (by kernel_rfl) (fun _ _ _ h => h) (Or.inl ⟨by rfl, ?hy28⟩) hHeld ?rest28
        case hy28 => (intro w' hSw; go_simp; try with_reducible rfl)
        try simp only [Act.put, List.setIfInBounds_toArray, List.set_cons_zero, List.set_cons_succ, List.getElem_toArray, List.getElem_cons_succ, List.getElem_cons_zero]
        refine wpAnyH_ready (rs := [5]) (by kernel_rfl) (by simp) ?_
        refine AllReadyH.cons rfl (fun K hK => ?_) AllReadyH.nil
        go_simp
        go_at_call 17
        refine Calls.mono (FB.out _) ?_
        rintro e w4 ⟨⟨v4, rfl, ho⟩, hb⟩
        obtain ⟨g4, c4, rfl, cy, hg4, hlt4⟩ := owns_one ho
        go_wp2_with fail
        have hB4 : Below w2.heap.size w2 w4 := hB3.trans (hb.mono hB3.size)
        refine hK.out _ _ ⟨(hb.cell hlt3).trans cx, hB4⟩ (fun hHeld2 => ?_)
        have hcx4 := (hb.cell hlt3).trans cx
        clear hK K hb hHeld ho hHeld2 cx hB3
        try simp only [Act.put, List.setIfInBounds_toArray, List.set_cons_zero, List.set_cons_succ, List.getElem_toArray, List.getElem_cons_succ, List.getElem_cons_zero]
        refine wpAnyH_imp (S' := fun w' => w'.cell? ⟨g4, 0, none⟩ = some (.string ⟨y.toArray⟩) ∧ w'.cell? ⟨g3, 0, none⟩ = some (.string ⟨x.toArray⟩) ∧ Below w2.heap.size w2 w') (fun _ h => h.2) _ _ _ _ ?_
        have hHeld : w4.cell? ⟨g4, 0, none⟩ = some (.string ⟨y.toArray⟩) ∧ w4.cell? ⟨g3, 0, none⟩ = some (.string ⟨x.toArray⟩) ∧ Below w2.heap.size w2 w4 := ⟨cy, hcx4, hB4⟩
        refine wpAnyH_take (i := 6) (v := ?v29) rfl (by kernel_rfl) (by kernel_rfl) (by kernel_rfl) (fun _ _ _ h => h) (Or.inl ⟨by rfl, ?hy29⟩) hHeld ?rest29
        case hy29 => (intro w' hSw; go_simp; try with_reducible rfl)
        try simp only [Act.put, List.setIfInBounds_toArray, List.set_cons_zero, List.set_cons_succ, List.getElem_toArray, List.getElem_cons_succ, List.getElem_cons_zero]
        refine wpAnyH_take (i := 7) (v := ?v30) rfl (by kernel_rfl) (by kernel_rfl) (by kernel_rfl) (fun _ _ _ h => h) (Or.inl ⟨by rfl, ?hy30⟩) hHeld ?rest30
        case hy30 => (intro w' hSw; go_simp; try with_reducible rfl)
        try simp only [Act.put, List.setIfInBounds_toArray, List.set_cons_zero, List.set_cons_succ, List.getElem_toArray, List.getElem_cons_succ, List.getElem_cons_zero]
        refine wpAnyH_take (i := 8) (v := ?v31) rfl (by kernel_rfl) (by kernel_rfl) (by kernel_rfl) (fun _ _ _ h => h) (Or.inl ⟨by rfl, ?hy31⟩) hHeld ?rest31
        case hy31 => (intro w' hSw; go_simp; try with_reducible rfl)
        try simp only [Act.put, List.setIfInBounds_toArray, List.set_cons_zero, List.set_cons_succ, List.getElem_toArray, List.getElem_cons_succ, List.getElem_cons_zero]
        refine wpAnyH_take (i := 9) (v := ?v32) rfl (by kernel_rfl) (by kernel_rfl) (by kernel_rfl) (fun _ _ _ h => h) (Or.inl ⟨by rfl, ?hy32⟩) hHeld ?rest32
        case hy32 => (intro w' hSw; go_simp; try with_reducible rfl)
        try simp only [Act.put, List.setIfInBounds_toArray, List.set_cons_zero, List.set_cons_succ, List.getElem_toArray, List.getElem_cons_succ, List.getElem_cons_zero]
        refine wpAnyH_done (by kernel_rfl) ?_ _
        have HB4 := Lib.hid (HB2.out.trans (hB4.mono HB2.out.size))
        clear hHeld cy hcx4 hB4 HB2' hg3 hg4 hlt3 hlt4
        go_wp2_with fail
        refine (WX.out _).mono ?_
        rintro e w5 ⟨rfl, hb⟩
        have HB5 := Lib.hid (HB4.out.trans (hb.mono HB4.out.size))
        clear hb
        go_wp2_with fail
        refine (PX.out _ (HT.out.later HB5.out).1).mono ?_
        rintro e w6 ⟨rfl, hb⟩
        have HB6 := Lib.hid (HB5.out.trans (hb.mono HB5.out.size))
        clear hb
        have hb8 := HB6.out.alloc HB6.out.size (.cells #[.int .u64 (rx rx_ k 0), .int .u64 (rx rx_ k 1), .int .u64 (rx rx_ k 2), .int .u64 (rx rx_ k 3), .int .u64 (rx rx_ k 4), .bool (ra rx_ k 2), .bool (ra rx_ k 4)] 24)
        have hr8 := heap_new w6 (.cells #[.int .u64 (rx rx_ k 0), .int .u64 (rx rx_ k 1), .int .u64 (rx rx_ k 2), .int .u64 (rx rx_ k 3), .int .u64 (rx rx_ k 4), .bool (ra rx_ k 2), .bool (ra rx_ k 4)] 24)
        go_wp2_with fail
        generalize w6.alloc (.cells #[.int .u64 (rx rx_ k 0), .int .u64 (rx rx_ k 1), .int .u64 (rx rx_ k 2), .int .u64 (rx rx_ k 3), .int .u64 (rx rx_ k 4), .bool (ra rx_ k 2), .bool (ra rx_ k 4)] 24) = w7 at *
        have HB7 := Lib.hid hb8
        have Rx7 := Lib.hid hr8
        clear hb8 hr8
        refine (WY.out _).mono ?_
        rintro e w8 ⟨rfl, hb⟩
        have HB8 := Lib.hid (HB7.out.trans (hb.mono HB7.out.size))
        have Rx8 := Lib.hid (row_below hb (by have := (Array.getElem?_eq_some_iff.1 Rx7.out).1; omega) Rx7.out)
        clear hb
        go_wp2_with fail
        refine (PY.out _ (HT.out.later HB8.out).1).mono ?_
        rintro e w9 ⟨rfl, hb⟩
        have HB9 := Lib.hid (HB8.out.trans (hb.mono HB8.out.size))
        have Rx9 := Lib.hid (row_below hb (by have := (Array.getElem?_eq_some_iff.1 Rx8.out).1; omega) Rx8.out)
        clear hb
        have hb8 := HB9.out.alloc HB9.out.size (.cells #[.int .u64 (rx ry_ k 0), .int .u64 (rx ry_ k 1), .int .u64 (rx ry_ k 2), .int .u64 (rx ry_ k 3), .int .u64 (rx ry_ k 4), .bool (ra ry_ k 2), .bool (ra ry_ k 4)] 24)
        have hr8 := heap_new w9 (.cells #[.int .u64 (rx ry_ k 0), .int .u64 (rx ry_ k 1), .int .u64 (rx ry_ k 2), .int .u64 (rx ry_ k 3), .int .u64 (rx ry_ k 4), .bool (ra ry_ k 2), .bool (ra ry_ k 4)] 24)
        have hr8x := heap_old (.cells #[.int .u64 (rx ry_ k 0), .int .u64 (rx ry_ k 1), .int .u64 (rx ry_ k 2), .int .u64 (rx ry_ k 3), .int .u64 (rx ry_ k 4), .bool (ra ry_ k 2), .bool (ra ry_ k 4)] 24) (Array.getElem?_eq_some_iff.1 Rx9.out).1 Rx9.out
        go_wp2_with fail
        generalize w9.alloc (.cells #[.int .u64 (rx ry_ k 0), .int .u64 (rx ry_ k 1), .int .u64 (rx ry_ k 2), .int .u64 (rx ry_ k 3), .int .u64 (rx ry_ k 4), .bool (ra ry_ k 2), .bool (ra ry_ k 4)] 24) = w10 at *
        have HB10 := Lib.hid hb8
        have Ry10 := Lib.hid hr8
        have Rx10 := Lib.hid hr8x
        clear hb8 hr8 hr8x
        rw [HZ.out]
        refine (WZ.out _).mono ?_
        rintro e w11 ⟨rfl, hb⟩
        have HB11 := Lib.hid (HB10.out.trans (hb.mono HB10.out.size))
        have Rx11 := Lib.hid (row_below hb (by have := (Array.getElem?_eq_some_iff.1 Rx10.out).1; omega) Rx10.out)
        have Ry11 := Lib.hid (row_below hb (by have := (Array.getElem?_eq_some_iff.1 Ry10.out).1; omega) Ry10.out)
        clear hb
        go_wp2_with fail
        refine (PZ.out _ (HT.out.later HB11.out).1).mono ?_
        rintro e w12 ⟨rfl, hb⟩
        have HB12 := Lib.hid (HB11.out.trans (hb.mono HB11.out.size))
        have Rx12 := Lib.hid (row_below hb (by have := (Array.getElem?_eq_some_iff.1 Rx11.out).1; omega) Rx11.out)
        have Ry12 := Lib.hid (row_below hb (by have := (Array.getElem?_eq_some_iff.1 Ry11.out).1; omega) Ry11.out)
        clear hb
        have hb8 := HB12.out.alloc HB12.out.size (.cells #[.int .u64 (rx rz k 0), .int .u64 (rx rz k 1), .int .u64 (rx rz k 2), .int .u64 (rx rz k 3), .int .u64 (rx rz k 4), .bool (ra rz k 2), .bool (ra rz k 4)] 24)
        have hr8 := heap_new w12 (.cells #[.int .u64 (rx rz k 0), .int .u64 (rx rz k 1), .int .u64 (rx rz k 2), .int .u64 (rx rz k 3), .int .u64 (rx rz k 4), .bool (ra rz k 2), .bool (ra rz k 4)] 24)
        have hr8x := heap_old (.cells #[.int .u64 (rx rz k 0), .int .u64 (rx rz k 1), .int .u64 (rx rz k 2), .int .u64 (rx rz k 3), .int .u64 (rx rz k 4), .bool (ra rz k 2), .bool (ra rz k 4)] 24) (Array.getElem?_eq_some_iff.1 Rx12.out).1 Rx12.out
        have hr8y := heap_old (.cells #[.int .u64 (rx rz k 0), .int .u64 (rx rz k 1), .int .u64 (rx rz k 2), .int .u64 (rx rz k 3), .int .u64 (rx rz k 4), .bool (ra rz k 2), .bool (ra rz k 4)] 24) (Array.getElem?_eq_some_iff.1 Ry12.out).1 Ry12.out
        go_wp2_with fail
        generalize w12.alloc (.cells #[.int .u64 (rx rz k 0), .int .u64 (rx rz k 1), .int .u64 (rx rz k 2), .int .u64 (rx rz k 3), .int .u64 (rx rz k 4), .bool (ra rz k 2), .bool (ra rz k 4)] 24) = w13 at *
        have HB13 := Lib.hid hb8
        have Rz13 := Lib.hid hr8
        have Rx13 := Lib.hid hr8x
        have Ry13 := Lib.hid hr8y
        clear hb8 hr8 hr8x hr8y
        refine (HL.out _ (HT.out.later HB13.out)).mono ?_
        rintro e w14 ⟨rfl, hb⟩
        have HB14 := Lib.hid (HB13.out.trans (hb.mono HB13.out.size))
        obtain ⟨kx, _⟩ := cells_of_heap (row_below hb (Array.getElem?_eq_some_iff.1 Rx13.out).1 Rx13.out)
        obtain ⟨ky, _⟩ := cells_of_heap (row_below hb (Array.getElem?_eq_some_iff.1 Ry13.out).1 Ry13.out)
        obtain ⟨kz, _⟩ := cells_of_heap (row_below hb (Array.getElem?_eq_some_iff.1 Rz13.out).1 Rz13.out)
        clear hb
        go_wp2_with fail
        all_goals (go_ret; exact ⟨ret_bool (by simp), HB14.out⟩)
  · obtain ⟨hez, hnz⟩ := HBAD.out (.inl hex)
    have he1 : (re rx_ == 0) = false := by simpa using hex
    have he2 : (re rz == 0) = false := by simpa using hez
    have he3 : (re rx_ != 0) = true := by simpa using hex
    have he4 : (re rz != 0) = true := by simpa using hez
    rw [hnz] at PZ
    clear HGOOD HBAD hnz
    rcases hkv with ⟨hn, hkv⟩ | ⟨hn, hkv⟩
    · go_enter Tryd.func6, Tryd.ntmps6
      go_wp2_with fail
      refine (FA.out _).mono ?_
      rintro e w1 ⟨⟨v1, rfl, ho⟩, hb⟩
      obtain ⟨p1, c1, rfl⟩ := owns_slice ho
      have HB1 := Lib.hid ((Below.refl w.heap.size w).trans (hb.mono (Below.refl w.heap.size w).size))
      clear ho hb
      go_wp2_with fail
      refine (FB.out _).mono ?_
      rintro e w2 ⟨⟨v2, rfl, ho⟩, hb⟩
      obtain ⟨p2, c2, rfl⟩ := owns_slice ho
      have HB2 := Lib.hid ((HB1.out).trans (hb.mono (HB1.out).size))
      clear ho hb
      go_wp2_with fail
      have HB2' := HB2.out
      refine wp_region_held_drew (S := fun w' => Below w2.heap.size w2 w') hmx (Below.refl _ _).drew (fun hHeld => ?_)
      refine wpAnyH_take (i := 0) (v := ?v33) rfl (by kernel_rfl) (by kernel_rfl) (by kernel_rfl) (fun _ _ _ h => h) (Or.inl ⟨by rfl, ?hy33⟩) hHeld ?rest33
      case hy33 => (intro w' hSw; go_simp; try with_reducible rfl)
      try simp only [Act.put, List.setIfInBounds_toArray, List.set_cons_zero, List.set_cons_succ, List.getElem_toArray, List.getElem_cons_succ, List.getElem_cons_zero]
      refine wpAnyH_take (i := 4) (v := ?v34) rfl (by kernel_rfl) (by kernel_rfl) (by kernel_rfl) (fun _ _ _ h => h) (Or.inl ⟨by rfl, ?hy34⟩) hHeld ?rest34
      case hy34 => (intro w' hSw; go_simp; try with_reducible rfl)
      try simp only [Act.put, List.setIfInBounds_toArray, List.set_cons_zero, List.set_cons_succ, List.getElem_toArray, List.getElem_cons_succ, List.getElem_cons_zero]
      refine wpAnyH_ready (rs := [1]) (by kernel_rfl) (by simp) ?_
      refine AllReadyH.cons rfl (fun K hK => ?_) AllReadyH.nil
      go_simp
      go_at_call 17
      refine Calls.mono (FA.out _) ?_
      rintro e w3 ⟨⟨v3, rfl, ho⟩, hb⟩
      obtain ⟨g3, c3, rfl, cx, hg3, hlt3⟩ := owns_one ho
      go_wp2_with fail
      have hB3 : Below w2.heap.size w2 w3 := (Below.refl _ _).drew.trans hb
      refine hK.out _ _ hB3 (fun hHeld2 => ?_)
      clear hK K hb hHeld ho hHeld2
      try simp only [Act.put, List.setIfInBounds_toArray, List.set_cons_zero, List.set_cons_succ, List.getElem_toArray, List.getElem_cons_succ, List.getElem_cons_zero]
      refine wpAnyH_imp (S' := fun w' => w'.cell? ⟨g3, 0, none⟩ = some (.string ⟨x.toArray⟩) ∧ Below w2.heap.size w2 w') (fun _ h => h.2) _ _ _ _ ?_
      have hHeld : w3.cell? ⟨g3, 0, none⟩ = some (.string ⟨x.toArray⟩) ∧ Below w2.heap.size w2 w3 := ⟨cx, hB3⟩
      refine wpAnyH_take (i := 2) (v := ?v35) rfl (by kernel_rfl) (by kernel_rfl) (by kernel_rfl) (fun _ _ _ h => h) (Or.inl ⟨by rfl, ?hy35⟩) hHeld ?rest35
      case hy35 => (intro w' hSw; go_simp; try with_reducible rfl)
      try simp only [Act.put, List.setIfInBounds_toArray, List.set_cons_zero, List.set_cons_succ, List.getElem_toArray, List.getElem_cons_succ, List.getElem_cons_zero]
      refine wpAnyH_take (i := 3) (v := ?v36) rfl (by kernel_rfl) (by kernel_rfl) (by kernel_rfl) (fun _ _ _ h => h) (Or.inl ⟨by rfl, ?hy36⟩) hHeld ?rest36
      case hy36 => (intro w' hSw; go_simp; try with_reducible rfl)
      try simp only [Act.put, List.setIfInBounds_toArray, List.set_cons_zero, List.set_cons_succ, List.getElem_toArray, List.getElem_cons_succ, List.getElem_cons_zero]
      refine wpAnyH_ready (rs := [5]) (by kernel_rfl) (by simp) ?_
      refine AllReadyH.cons rfl (fun K hK => ?_) AllReadyH.nil
      go_simp
      go_at_call 17
      refine Calls.mono (FB.out _) ?_
      rintro e w4 ⟨⟨v4, rfl, ho⟩, hb⟩
      obtain ⟨g4, c4, rfl, cy, hg4, hlt4⟩ := owns_one ho
      go_wp2_with fail
      have hB4 : Below w2.heap.size w2 w4 := hB3.trans (hb.mono hB3.size)
      refine hK.out _ _ ⟨(hb.cell hlt3).trans cx, hB4⟩ (fun hHeld2 => ?_)
      have hcx4 := (hb.cell hlt3).trans cx
      clear hK K hb hHeld ho hHeld2 cx hB3
      try simp only [Act.put, List.setIfInBounds_toArray, List.set_cons_zero, List.set_cons_succ, List.getElem_toArray, List.getElem_cons_succ, List.getElem_cons_zero]
      refine wpAnyH_imp (S' := fun w' => w'.cell? ⟨g4, 0, none⟩ = some (.string ⟨y.toArray⟩) ∧ w'.cell? ⟨g3, 0, none⟩ = some (.string ⟨x.toArray⟩) ∧ Below w2.heap.size w2 w') (fun _ h => h.2) _ _ _ _ ?_
      have hHeld : w4.cell? ⟨g4, 0, none⟩ = some (.string ⟨y.toArray⟩) ∧ w4.cell? ⟨g3, 0, none⟩ = some (.string ⟨x.toArray⟩) ∧ Below w2.heap.size w2 w4 := ⟨cy, hcx4, hB4⟩
      refine wpAnyH_take (i := 6) (v := ?v37) rfl (by kernel_rfl) (by kernel_rfl) (by kernel_rfl) (fun _ _ _ h => h) (Or.inl ⟨by rfl, ?hy37⟩) hHeld ?rest37
      case hy37 => (intro w' hSw; go_simp; try with_reducible rfl)
      try simp only [Act.put, List.setIfInBounds_toArray, List.set_cons_zero, List.set_cons_succ, List.getElem_toArray, List.getElem_cons_succ, List.getElem_cons_zero]
      refine wpAnyH_take (i := 7) (v := ?v38) rfl (by kernel_rfl) (by kernel_rfl) (by kernel_rfl) (fun _ _ _ h => h) (Or.inl ⟨by rfl, ?hy38⟩) hHeld ?rest38
      case hy38 => (intro w' hSw; go_simp; try with_reducible rfl)
      try simp only [Act.put, List.setIfInBounds_toArray, List.set_cons_zero, List.set_cons_succ, List.getElem_toArray, List.getElem_cons_succ, List.getElem_cons_zero]
      refine wpAnyH_take (i := 8) (v := ?v39) rfl (by kernel_rfl) (by kernel_rfl) (by kernel_rfl) (fun _ _ _ h => h) (Or.inl ⟨by rfl, ?hy39⟩) hHeld ?rest39
      case hy39 => (intro w' hSw; go_simp; try with_reducible rfl)
      try simp only [Act.put, List.setIfInBounds_toArray, List.set_cons_zero, List.set_cons_succ, List.getElem_toArray, List.getElem_cons_succ, List.getElem_cons_zero]
      refine wpAnyH_take (i := 9) (v := ?v40) rfl (by kernel_rfl) (by kernel_rfl) (by kernel_rfl) (fun _ _ _ h => h) (Or.inl ⟨by rfl, ?hy40⟩) hHeld ?rest40
      case hy40 => (intro w' hSw; go_simp; try with_reducible rfl)
      try simp only [Act.put, List.setIfInBounds_toArray, List.set_cons_zero, List.set_cons_succ, List.getElem_toArray, List.getElem_cons_succ, List.getElem_cons_zero]
      refine wpAnyH_done (by kernel_rfl) ?_ _
      have HB4 := Lib.hid (HB2.out.trans (hB4.mono HB2.out.size))
      clear hHeld cy hcx4 hB4 HB2' hg3 hg4 hlt3 hlt4
      go_wp2_with fail
      refine (WX.out _).mono ?_
      rintro e w5 ⟨rfl, hb⟩
      have HB5 := Lib.hid (HB4.out.trans (hb.mono HB4.out.size))
      clear hb
      go_wp2_with fail
      refine (PX.out _ (HT.out.later HB5.out).1).mono ?_
      rintro e w6 ⟨rfl, hb⟩
      have HB6 := Lib.hid (HB5.out.trans (hb.mono HB5.out.size))
      clear hb
      have hb8 := HB6.out.alloc HB6.out.size (.cells #[.int .u64 (rx rx_ k 0), .int .u64 (rx rx_ k 1), .int .u64 (rx rx_ k 2), .int .u64 (rx rx_ k 3), .int .u64 (rx rx_ k 4), .bool (ra rx_ k 2), .bool (ra rx_ k 4)] 24)
      have hr8 := heap_new w6 (.cells #[.int .u64 (rx rx_ k 0), .int .u64 (rx rx_ k 1), .int .u64 (rx rx_ k 2), .int .u64 (rx rx_ k 3), .int .u64 (rx rx_ k 4), .bool (ra rx_ k 2), .bool (ra rx_ k 4)] 24)
      go_wp2_with fail
      generalize w6.alloc (.cells #[.int .u64 (rx rx_ k 0), .int .u64 (rx rx_ k 1), .int .u64 (rx rx_ k 2), .int .u64 (rx rx_ k 3), .int .u64 (rx rx_ k 4), .bool (ra rx_ k 2), .bool (ra rx_ k 4)] 24) = w7 at *
      have HB7 := Lib.hid hb8
      have Rx7 := Lib.hid hr8
      clear hb8 hr8
      refine (WY.out _).mono ?_
      rintro e w8 ⟨rfl, hb⟩
      have HB8 := Lib.hid (HB7.out.trans (hb.mono HB7.out.size))
      have Rx8 := Lib.hid (row_below hb (by have := (Array.getElem?_eq_some_iff.1 Rx7.out).1; omega) Rx7.out)
      clear hb
      go_wp2_with fail
      refine (PY.out _ (HT.out.later HB8.out).1).mono ?_
      rintro e w9 ⟨rfl, hb⟩
      have HB9 := Lib.hid (HB8.out.trans (hb.mono HB8.out.size))
      have Rx9 := Lib.hid (row_below hb (by have := (Array.getElem?_eq_some_iff.1 Rx8.out).1; omega) Rx8.out)
      clear hb
      have hb8 := HB9.out.alloc HB9.out.size (.cells #[.int .u64 (rx ry_ k 0), .int .u64 (rx ry_ k 1), .int .u64 (rx ry_ k 2), .int .u64 (rx ry_ k 3), .int .u64 (rx ry_ k 4), .bool (ra ry_ k 2), .bool (ra ry_ k 4)] 24)
      have hr8 := heap_new w9 (.cells #[.int .u64 (rx ry_ k 0), .int .u64 (rx ry_ k 1), .int .u64 (rx ry_ k 2), .int .u64 (rx ry_ k 3), .int .u64 (rx ry_ k 4), .bool (ra ry_ k 2), .bool (ra ry_ k 4)] 24)
      have hr8x := heap_old (.cells #[.int .u64 (rx ry_ k 0), .int .u64 (rx ry_ k 1), .int .u64 (rx ry_ k 2), .int .u64 (rx ry_ k 3), .int .u64 (rx ry_ k 4), .bool (ra ry_ k 2), .bool (ra ry_ k 4)] 24) (Array.getElem?_eq_some_iff.1 Rx9.out).1 Rx9.out
      go_wp2_with fail
      generalize w9.alloc (.cells #[.int .u64 (rx ry_ k 0), .int .u64 (rx ry_ k 1), .int .u64 (rx ry_ k 2), .int .u64 (rx ry_ k 3), .int .u64 (rx ry_ k 4), .bool (ra ry_ k 2), .bool (ra ry_ k 4)] 24) = w10 at *
      have HB10 := Lib.hid hb8
      have Ry10 := Lib.hid hr8
      have Rx10 := Lib.hid hr8x
      clear hb8 hr8 hr8x
      rw [HZ.out]
      refine (WZ.out _).mono ?_
      rintro e w11 ⟨rfl, hb⟩
      have HB11 := Lib.hid (HB10.out.trans (hb.mono HB10.out.size))
      have Rx11 := Lib.hid (row_below hb (by have := (Array.getElem?_eq_some_iff.1 Rx10.out).1; omega) Rx10.out)
      have Ry11 := Lib.hid (row_below hb (by have := (Array.getElem?_eq_some_iff.1 Ry10.out).1; omega) Ry10.out)
      clear hb
      go_wp2_with fail
      refine (PZ.out _ (HT.out.later HB11.out).1).mono ?_
      rintro e w12 ⟨rfl, hb⟩
      have HB12 := Lib.hid (HB11.out.trans (hb.mono HB11.out.size))
      have Rx12 := Lib.hid (row_below hb (by have := (Array.getElem?_eq_some_iff.1 Rx11.out).1; omega) Rx11.out)
      have Ry12 := Lib.hid (row_below hb (by have := (Array.getElem?_eq_some_iff.1 Ry11.out).1; omega) Ry11.out)
      clear hb
      have hb8 := HB12.out.alloc HB12.out.size (.cells #[.int .u64 (rx rz k 0), .int .u64 (rx rz k 1), .int .u64 (rx rz k 2), .int .u64 (rx rz k 3), .int .u64 (rx rz k 4), .bool (ra rz k 2), .bool (ra rz k 4)] 24)
      have hr8 := heap_new w12 (.cells #[.int .u64 (rx rz k 0), .int .u64 (rx rz k 1), .int .u64 (rx rz k 2), .int .u64 (rx rz k 3), .int .u64 (rx rz k 4), .bool (ra rz k 2), .bool (ra rz k 4)] 24)
      have hr8x := heap_old (.cells #[.int .u64 (rx rz k 0), .int .u64 (rx rz k 1), .int .u64 (rx rz k 2), .int .u64 (rx rz k 3), .int .u64 (rx rz k 4), .bool (ra rz k 2), .bool (ra rz k 4)] 24) (Array.getElem?_eq_some_iff.1 Rx12.out).1 Rx12.out
      have hr8y := heap_old (.cells #[.int .u64 (rx rz k 0), .int .u64 (rx rz k 1), .int .u64 (rx rz k 2), .int .u64 (rx rz k 3), .int .u64 (rx rz k 4), .bool (ra rz k 2), .bool (ra rz k 4)] 24) (Array.getElem?_eq_some_iff.1 Ry12.out).1 Ry12.out
      go_wp2_with fail
      generalize w12.alloc (.cells #[.int .u64 (rx rz k 0), .int .u64 (rx rz k 1), .int .u64 (rx rz k 2), .int .u64 (rx rz k 3), .int .u64 (rx rz k 4), .bool (ra rz k 2), .bool (ra rz k 4)] 24) = w13 at *
      have HB13 := Lib.hid hb8
      have Rz13 := Lib.hid hr8
      have Rx13 := Lib.hid hr8x
      have Ry13 := Lib.hid hr8y
      clear hb8 hr8 hr8x hr8y
      refine (HL.out _ (HT.out.later HB13.out)).mono ?_
      rintro e w14 ⟨rfl, hb⟩
      have HB14 := Lib.hid (HB13.out.trans (hb.mono HB13.out.size))
      obtain ⟨kx, _⟩ := cells_of_heap (row_below hb (Array.getElem?_eq_some_iff.1 Rx13.out).1 Rx13.out)
      obtain ⟨ky, _⟩ := cells_of_heap (row_below hb (Array.getElem?_eq_some_iff.1 Ry13.out).1 Ry13.out)
      obtain ⟨kz, _⟩ := cells_of_heap (row_below hb (Array.getElem?_eq_some_iff.1 Rz13.out).1 Rz13.out)
      clear hb
      go_wp2_with fail
      all_goals (go_ret; exact ⟨ret_bool (by simp), HB14.out⟩)
    · go_enter Tryd.func6, Tryd.ntmps6
      go_wp2_with fail
      refine (FA.out _).mono ?_
      rintro e w1 ⟨⟨v1, rfl, ho⟩, hb⟩
      obtain ⟨p1, c1, rfl⟩ := owns_slice ho
      have HB1 := Lib.hid ((Below.refl w.heap.size w).trans (hb.mono (Below.refl w.heap.size w).size))
      clear ho hb
      go_wp2_with fail
      refine (FB.out _).mono ?_
      rintro e w2 ⟨⟨v2, rfl, ho⟩, hb⟩
      obtain ⟨p2, c2, rfl⟩ := owns_slice ho
      have HB2 := Lib.hid ((HB1.out).trans (hb.mono (HB1.out).size))
      clear ho hb
      go_wp2_with fail
      have HB2' := HB2.out
      refine wp_region_held_drew (S := fun w' => Below w2.heap.size w2 w') hmx (Below.refl _ _).drew (fun hHeld => ?_)
      refine wpAnyH_take (i := 0) (v := ?v41) rfl (by kernel_rfl) (by kernel_rfl) (by kernel_rfl) (fun _ _ _ h => h) (Or.inl ⟨by rfl, ?hy41⟩) hHeld ?rest41
      case hy41 => (intro w' hSw; go_simp; try with_reducible rfl)
      try simp only [Act.put, List.setIfInBounds_toArray, List.set_cons_zero, List.set_cons_succ, List.getElem_toArray, List.getElem_cons_succ, List.getElem_cons_zero]
      refine wpAnyH_take (i := 4) (v := ?v42) rfl (by kernel_rfl) (by kernel_rfl) (by kernel_rfl) (fun _ _ _ h => h) (Or.inl ⟨by rfl, ?hy42⟩) hHeld ?rest42
      case hy42 => (intro w' hSw; go_simp; try with_reducible rfl)
      try simp only [Act.put, List.setIfInBounds_toArray, List.set_cons_zero, List.set_cons_succ, List.getElem_toArray, List.getElem_cons_succ, List.getElem_cons_zero]
      refine wpAnyH_ready (rs := [1]) (by kernel_rfl) (by simp) ?_
      refine AllReadyH.cons rfl (fun K hK => ?_) AllReadyH.nil
      go_simp
      go_at_call 17
      refine Calls.mono (FA.out _) ?_
      rintro e w3 ⟨⟨v3, rfl, ho⟩, hb⟩
      obtain ⟨g3, c3, rfl, cx, hg3, hlt3⟩ := owns_one ho
      go_wp2_with fail
      have hB3 : Below w2.heap.size w2 w3 := (Below.refl _ _).drew.trans hb
      refine hK.out _ _ hB3 (fun hHeld2 => ?_)
      clear hK K hb hHeld ho hHeld2
      try simp only [Act.put, List.setIfInBounds_toArray, List.set_cons_zero, List.set_cons_succ, List.getElem_toArray, List.getElem_cons_succ, List.getElem_cons_zero]
      refine wpAnyH_imp (S' := fun w' => w'.cell? ⟨g3, 0, none⟩ = some (.string ⟨x.toArray⟩) ∧ Below w2.heap.size w2 w') (fun _ h => h.2) _ _ _ _ ?_
      have hHeld : w3.cell? ⟨g3, 0, none⟩ = some (.string ⟨x.toArray⟩) ∧ Below w2.heap.size w2 w3 := ⟨cx, hB3⟩
      refine wpAnyH_take (i := 2) (v := ?v43) rfl (by kernel_rfl) (by kernel_rfl) (by kernel_rfl) (fun _ _ _ h => h) (Or.inl ⟨by rfl, ?hy43⟩) hHeld ?rest43
      case hy43 => (intro w' hSw; go_simp; try with_reducible rfl)
      try simp only [Act.put, List.setIfInBounds_toArray, List.set_cons_zero, List.set_cons_succ, List.getElem_toArray, List.getElem_cons_succ, List.getElem_cons_zero]
      refine wpAnyH_take (i := 3) (v := ?v44) rfl (by kernel_rfl) (by kernel_rfl) (by kernel_rfl) (fun _ _ _ h => h) (Or.inl ⟨by rfl, ?hy44⟩) hHeld ?rest44
      case hy44 => (intro w' hSw; go_simp; try with_reducible rfl)
      try simp only [Act.put, List.setIfInBounds_toArray, List.set_cons_zero, List.set_cons_succ, List.getElem_toArray, List.getElem_cons_succ, List.getElem_cons_zero]
      refine wpAnyH_ready (rs := [5]) (by kernel_rfl) (by simp) ?_
      refine AllReadyH.cons rfl (fun K hK => ?_) AllReadyH.nil
      go_simp
      go_at_call 17
      refine Calls.mono (FB.out _) ?_
      rintro e w4 ⟨⟨v4, rfl, ho⟩, hb⟩
      obtain ⟨g4, c4, rfl, cy, hg4, hlt4⟩ := owns_one ho
      go_wp2_with fail
      have hB4 : Below w2.heap.size w2 w4 := hB3.trans (hb.mono hB3.size)
      refine hK.out _ _ ⟨(hb.cell hlt3).trans cx, hB4⟩ (fun hHeld2 => ?_)
      have hcx4 := (hb.cell hlt3).trans cx
      clear hK K hb hHeld ho hHeld2 cx hB3
      try simp only [Act.put, List.setIfInBounds_toArray, List.set_cons_zero, List.set_cons_succ, List.getElem_toArray, List.getElem_cons_succ, List.getElem_cons_zero]
      refine wpAnyH_imp (S' := fun w' => w'.cell? ⟨g4, 0, none⟩ = some (.string ⟨y.toArray⟩) ∧ w'.cell? ⟨g3, 0, none⟩ = some (.string ⟨x.toArray⟩) ∧ Below w2.heap.size w2 w') (fun _ h => h.2) _ _ _ _ ?_
      have hHeld : w4.cell? ⟨g4, 0, none⟩ = some (.string ⟨y.toArray⟩) ∧ w4.cell? ⟨g3, 0, none⟩ = some (.string ⟨x.toArray⟩) ∧ Below w2.heap.size w2 w4 := ⟨cy, hcx4, hB4⟩
      refine wpAnyH_take (i := 6) (v := ?v45) rfl (by kernel_rfl) (by kernel_rfl) (by kernel_rfl) (fun _ _ _ h => h) (Or.inl ⟨by rfl, ?hy45⟩) hHeld ?rest45
      case hy45 => (intro w' hSw; go_simp; try with_reducible rfl)
      try simp only [Act.put, List.setIfInBounds_toArray, List.set_cons_zero, List.set_cons_succ, List.getElem_toArray, List.getElem_cons_succ, List.getElem_cons_zero]
      refine wpAnyH_take (i := 7) (v := ?v46) rfl (by kernel_rfl) (by kernel_rfl) (by kernel_rfl) (fun _ _ _ h => h) (Or.inl ⟨by rfl, ?hy46⟩) hHeld ?rest46
      case hy46 => (intro w' hSw; go_simp; try with_reducible rfl)
      try simp only [Act.put, List.setIfInBounds_toArray, List.set_cons_zero, List.set_cons_succ, List.getElem_toArray, List.getElem_cons_succ, List.getElem_cons_zero]
      refine wpAnyH_take (i := 8) (v := ?v47) rfl (by kernel_rfl) (by kernel_rfl) (by kernel_rfl) (fun _ _ _ h => h) (Or.inl ⟨by rfl, ?hy47⟩) hHeld ?rest47
      case hy47 => (intro w' hSw; go_simp; try with_reducible rfl)
      try simp only [Act.put, List.setIfInBounds_toArray, List.set_cons_zero, List.set_cons_succ, List.getElem_toArray, List.getElem_cons_succ, List.getElem_cons_zero]
      refine wpAnyH_take (i := 9) (v := ?v48) rfl (by kernel_rfl) (by kernel_rfl) (by kernel_rfl) (fun _ _ _ h => h) (Or.inl ⟨by rfl, ?hy48⟩) hHeld ?rest48
      case hy48 => (intro w' hSw; go_simp; try with_reducible rfl)
      try simp only [Act.put, List.setIfInBounds_toArray, List.set_cons_zero, List.set_cons_succ, List.getElem_toArray, List.getElem_cons_succ, List.getElem_cons_zero]
      refine wpAnyH_done (by kernel_rfl) ?_ _
      have HB4 := Lib.hid (HB2.out.trans (hB4.mono HB2.out.size))
      clear hHeld cy hcx4 hB4 HB2' hg3 hg4 hlt3 hlt4
      go_wp2_with fail
      refine (WX.out _).mono ?_
      rintro e w5 ⟨rfl, hb⟩
      have HB5 := Lib.hid (HB4.out.trans (hb.mono HB4.out.size))
      clear hb
      go_wp2_with fail
      refine (PX.out _ (HT.out.later HB5.out).1).mono ?_
      rintro e w6 ⟨rfl, hb⟩
      have HB6 := Lib.hid (HB5.out.trans (hb.mono HB5.out.size))
      clear hb
      have hb8 := HB6.out.alloc HB6.out.size (.cells #[.int .u64 (rx rx_ k 0), .int .u64 (rx rx_ k 1), .int .u64 (rx rx_ k 2), .int .u64 (rx rx_ k 3), .int .u64 (rx rx_ k 4), .bool (ra rx_ k 2), .bool (ra rx_ k 4)] 24)
      have hr8 := heap_new w6 (.cells #[.int .u64 (rx rx_ k 0), .int .u64 (rx rx_ k 1), .int .u64 (rx rx_ k 2), .int .u64 (rx rx_ k 3), .int .u64 (rx rx_ k 4), .bool (ra rx_ k 2), .bool (ra rx_ k 4)] 24)
      go_wp2_with fail
      generalize w6.alloc (.cells #[.int .u64 (rx rx_ k 0), .int .u64 (rx rx_ k 1), .int .u64 (rx rx_ k 2), .int .u64 (rx rx_ k 3), .int .u64 (rx rx_ k 4), .bool (ra rx_ k 2), .bool (ra rx_ k 4)] 24) = w7 at *
      have HB7 := Lib.hid hb8
      have Rx7 := Lib.hid hr8
      clear hb8 hr8
      refine (WY.out _).mono ?_
      rintro e w8 ⟨rfl, hb⟩
      have HB8 := Lib.hid (HB7.out.trans (hb.mono HB7.out.size))
      have Rx8 := Lib.hid (row_below hb (by have := (Array.getElem?_eq_some_iff.1 Rx7.out).1; omega) Rx7.out)
      clear hb
      go_wp2_with fail
      refine (PY.out _ (HT.out.later HB8.out).1).mono ?_
      rintro e w9 ⟨rfl, hb⟩
      have HB9 := Lib.hid (HB8.out.trans (hb.mono HB8.out.size))
      have Rx9 := Lib.hid (row_below hb (by have := (Array.getElem?_eq_some_iff.1 Rx8.out).1; omega) Rx8.out)
      clear hb
      have hb8 := HB9.out.alloc HB9.out.size (.cells #[.int .u64 (rx ry_ k 0), .int .u64 (rx ry_ k 1), .int .u64 (rx ry_ k 2), .int .u64 (rx ry_ k 3), .int .u64 (rx ry_ k 4), .bool (ra ry_ k 2), .bool (ra ry_ k 4)] 24)
      have hr8 := heap_new w9 (.cells #[.int .u64 (rx ry_ k 0), .int .u64 (rx ry_ k 1), .int .u64 (rx ry_ k 2), .int .u64 (rx ry_ k 3), .int .u64 (rx ry_ k 4), .bool (ra ry_ k 2), .bool (ra ry_ k 4)] 24)
      have hr8x := heap_old (.cells #[.int .u64 (rx ry_ k 0), .int .u64 (rx ry_ k 1), .int .u64 (rx ry_ k 2), .int .u64 (rx ry_ k 3), .int .u64 (rx ry_ k 4), .bool (ra ry_ k 2), .bool (ra ry_ k 4)] 24) (Array.getElem?_eq_some_iff.1 Rx9.out).1 Rx9.out
      go_wp2_with fail
      generalize w9.alloc (.cells #[.int .u64 (rx ry_ k 0), .int .u64 (rx ry_ k 1), .int .u64 (rx ry_ k 2), .int .u64 (rx ry_ k 3), .int .u64 (rx ry_ k 4), .bool (ra ry_ k 2), .bool (ra ry_ k 4)] 24) = w10 at *
      have HB10 := Lib.hid hb8
      have Ry10 := Lib.hid hr8
      have Rx10 := Lib.hid hr8x
      clear hb8 hr8 hr8x
      rw [HZ.out]
      refine (WZ.out _).mono ?_
      rintro e w11 ⟨rfl, hb⟩
      have HB11 := Lib.hid (HB10.out.trans (hb.mono HB10.out.size))
      have Rx11 := Lib.hid (row_below hb (by have := (Array.getElem?_eq_some_iff.1 Rx10.out).1; omega) Rx10.out)
      have Ry11 := Lib.hid (row_below hb (by have := (Array.getElem?_eq_some_iff.1 Ry10.out).1; omega) Ry10.out)
      clear hb
      go_wp2_with fail
      refine (PZ.out _ (HT.out.later HB11.out).1).mono ?_
      rintro e w12 ⟨rfl, hb⟩
      have HB12 := Lib.hid (HB11.out.trans (hb.mono HB11.out.size))
      have Rx12 := Lib.hid (row_below hb (by have := (Array.getElem?_eq_some_iff.1 Rx11.out).1; omega) Rx11.out)
      have Ry12 := Lib.hid (row_below hb (by have := (Array.getElem?_eq_some_iff.1 Ry11.out).1; omega) Ry11.out)
      clear hb
      have hb8 := HB12.out.alloc HB12.out.size (.cells #[.int .u64 (rx rz k 0), .int .u64 (rx rz k 1), .int .u64 (rx rz k 2), .int .u64 (rx rz k 3), .int .u64 (rx rz k 4), .bool (ra rz k 2), .bool (ra rz k 4)] 24)
      have hr8 := heap_new w12 (.cells #[.int .u64 (rx rz k 0), .int .u64 (rx rz k 1), .int .u64 (rx rz k 2), .int .u64 (rx rz k 3), .int .u64 (rx rz k 4), .bool (ra rz k 2), .bool (ra rz k 4)] 24)
      have hr8x := heap_old (.cells #[.int .u64 (rx rz k 0), .int .u64 (rx rz k 1), .int .u64 (rx rz k 2), .int .u64 (rx rz k 3), .int .u64 (rx rz k 4), .bool (ra rz k 2), .bool (ra rz k 4)] 24) (Array.getElem?_eq_some_iff.1 Rx12.out).1 Rx12.out
      have hr8y := heap_old (.cells #[.int .u64 (rx rz k 0), .int .u64 (rx rz k 1), .int .u64 (rx rz k 2), .int .u64 (rx rz k 3), .int .u64 (rx rz k 4), .bool (ra rz k 2), .bool (ra rz k 4)] 24) (Array.getElem?_eq_some_iff.1 Ry12.out).1 Ry12.out
      go_wp2_with fail
      generalize w12.alloc (.cells #[.int .u64 (rx rz k 0), .int .u64 (rx rz k 1), .int .u64 (rx rz k 2), .int .u64 (rx rz k 3), .int .u64 (rx rz k 4), .bool (ra rz k 2), .bool (ra rz k 4)] 24) = w13 at *
      have HB13 := Lib.hid hb8
      have Rz13 := Lib.hid hr8
      have Rx13 := Lib.hid hr8x
      have Ry13 := Lib.hid hr8y
      clear hb8 hr8 hr8x hr8y
      refine (HL.out _ (HT.out.later HB13.out)).mono ?_
      rintro e w14 ⟨rfl, hb⟩
      have HB14 := Lib.hid (HB13.out.trans (hb.mono HB13.out.size))
      obtain ⟨kx, _⟩ := cells_of_heap (row_below hb (Array.getElem?_eq_some_iff.1 Rx13.out).1 Rx13.out)
      obtain ⟨ky, _⟩ := cells_of_heap (row_below hb (Array.getElem?_eq_some_iff.1 Ry13.out).1 Ry13.out)
      obtain ⟨kz, _⟩ := cells_of_heap (row_below hb (Array.getElem?_eq_some_iff.1 Rz13.out).1 Rz13.out)
      clear hb
      go_wp2_with fail
      all_goals (go_ret; exact ⟨ret_bool (by simp), HB14.out⟩)

theorem law_lists (a b : Bytes) (at_ : Int) (h1 : -9223372036854775808 ≤ at_) (h2 : at_ ≤ 9223372036854775807) (la : a.length ≤ 140737488351232) (lb : b.length ≤ 140737488351232) (w : World) (hT : Tabs w) :
    Calls Tryd.prog 6 #[.string ⟨a.toArray⟩, .string ⟨b.toArray⟩, .int .i64 at_] w fun e w' => e = .returned (.bool true) ∧ Below w.heap.size w w' := by
  by_cases hl : 200 < a.length + b.length
  · exact lists_long a b at_ h1 h2 w hT la lb hl
  · by_cases ha : (fieldsB a).length = 1
    · by_cases hb : (fieldsB b).length = 1
      · obtain ⟨x, hx⟩ := List.length_eq_one_iff.1 ha
        obtain ⟨y, hy⟩ := List.length_eq_one_iff.1 hb
        exact lists_main a b x y at_ h1 h2 w hT (by omega) hx hy
      · exact lists_two a b at_ h1 h2 w hT (by omega) ha hb
    · exact lists_one a b at_ h1 h2 w hT (by omega) ha
end Go.Proofs.YtlkdeiohjdidcaaDoor
