/- Walks of package store: Append. -/
import Derived.Test.YtobgiialecgpnaaStoK
set_option linter.unusedSimpArgs false
set_option linter.unusedVariables false
namespace Go.Sto
def appendR (st : St) (s b : List UInt8) : Nat × St :=
  if okName s = true then
    if st.left = 0 then (70, st) else
      match look st.files s with
      | none => if 64 ≤ st.files.length ∨ st.room - used st.files < b.length then (2, st) else (0, ⟨ins ⟨s, b, 0, false⟩ st.files, st.room, wear st.left⟩)
      | some f => if st.room - used st.files < b.length then (2, st) else (0, ⟨ins ⟨f.name, f.bytes ++ b, f.sure, f.stays⟩ st.files, st.room, wear st.left⟩)
  else (1, st)
end Go.Sto
namespace Go.Proofs.Ytobgiialecgpnaa
open Go.ChangeShapes Go.WideShapes Go.ChangeAt Go.RowKit Go.Base Go.Sto Go.Maps

theorem Byt.moved {q : Nat → Prop} {w w' : World} {A : Option Addr} {bs : List UInt8} (h : Byt w A bs) (hm : Moved q w w') (hn : ∀ k, A.map Addr.block = some k → ¬ q k) : Byt w' A bs := fun i hi => by
  obtain ⟨b, o, e, c⟩ := h i hi
  refine ⟨b, o, e, hm.cell c (hn b (by rw [e]; rfl))⟩
/-- Bytes lie in no map. -/
theorem byt_map {w : World} {A : Option Addr} {bs : List UInt8} {bm : Nat} {es : Array MapEntry} {cl : Nat} (h : Byt w A bs) (hb : w.heap[bm]? = some (.map es cl)) (h0 : 0 < bs.length) : A.map Addr.block ≠ some bm := by
  obtain ⟨b, o, e, c⟩ := h 0 h0
  rw [e]
  intro h2
  have h3 : b = bm := Option.some.inj h2
  subst h3
  rw [Nat.add_zero] at c
  unfold World.cell? at c
  simp [hb] at c
section
variable {w w1 w' : World} {F G : Nat → Prop} {p bm : Nat} {D : DataW Unit} {es : List Ent} {room : Nat} {left : Int}
theorem append_bad (h : StoX w F p bm D es room left) (s : ByteArray) (hs : s.size ≤ maxLen) (A : Option Addr) (m c n : Nat) (hn : n = (if okS s then (if left = 0 then 70 else 0) else 1 : Nat)) (h0 : n ≠ 0) :
    Calls Try.prog 12 #[.pointer (some ⟨p, 0, none⟩), .string s, .slice A m c] w fun e w' => e = .returned (.int .i64 (n : Int)) ∧ Below w.heap.size w w' := by
  have hb := below_alloc w (.cells #[.string s] 9)
  have HM := Lib.hid (mayBe_one s hs w)
  have HR := Lib.hid (refuse_any (h.later hb) (okS s))
  rw [← hn] at HR
  have hz : ¬ (n : Int) = 0 := by omega
  have HB := Lib.hid hb
  clear h hn hs hb
  go_enter Try.func12, Try.ntmps12
  go_wp2_with (first
    | (go_at_call 26; refine Calls.mono (by with_reducible exact HM.out) ?_; rintro e w1 ⟨rfl, rfl⟩)
    | (go_at_call 25; refine Calls.mono (by with_reducible exact HR.out) ?_; rintro e w1 ⟨rfl, rfl⟩))
  go_ret
  exact ⟨rfl, HB.out⟩
set_option maxHeartbeats 2000000 in
theorem append_full (h : StoX w F p bm D es room left) (s : ByteArray) (hs : s.size ≤ maxLen) (A : Option Addr) (m c : Nat) (hm : m ≤ maxLen) (hok : okS s = true) (hl : left ≠ 0)
    (hfull : ((∀ e ∈ es, e.f.name ≠ s.data.toList) ∧ (64 ≤ es.length ∨ room - used (es.map (·.f)) < m)) ∨ ((∃ e ∈ es, e.f.name = s.data.toList) ∧ room - used (es.map (·.f)) < m)) :
    Calls Try.prog 12 #[.pointer (some ⟨p, 0, none⟩), .string s, .slice A m c] w fun e w' => e = .returned (.int .i64 2) ∧ Below w.heap.size w w' := by
  have hb := below_alloc w (.cells #[.string s] 9)
  have hx := h.later hb
  have HM := Lib.hid (mayBe_one s hs w)
  rw [hok] at HM
  have HR := Lib.hid (refuse_ok hx hl)
  have HRm := Lib.hid (room_any hx)
  have H := Lib.hid hx
  have HS := Lib.hid hs
  have HB := Lib.hid hb
  have hln := fun ty => hx.map.len Try.underlying56 ty
  rw [hx.size] at hln
  obtain ⟨c0, c1, c2⟩ := hx.cells
  unfold maxLen at hm
  rcases hfull with ⟨hn, hf⟩ | ⟨⟨e, he, hn⟩, hf⟩
  · have HN := Lib.hid hn
    by_cases h64 : 64 ≤ es.length
    · have h64' : (64 : Int) ≤ (es.length : Int) := by omega
      clear h hx hs hb hn hf
      go_enter Try.func12, Try.ntmps12
      go_wp2_with (first
        | (go_at_call 26; refine Calls.mono (by with_reducible exact HM.out) ?_; rintro e w1 ⟨rfl, rfl⟩)
        | (go_at_call 25; refine Calls.mono (by with_reducible exact HR.out) ?_; rintro e w1 ⟨rfl, rfl⟩)
        | (at_lookup; refine wpList_look_miss H.out HS.out HN.out rfl _ _ rfl rfl rfl ?_))
      go_ret
      exact ⟨rfl, HB.out⟩
    · have h64' : (es.length : Int) < 64 := by omega
      have hf' : ((room - used (es.map (·.f)) : Nat) : Int) < (m : Int) := by omega
      generalize room - used (es.map (·.f)) = rl at *
      clear h hx hs hb hn hf
      go_enter Try.func12, Try.ntmps12
      go_wp2_with (first
        | (go_at_call 26; refine Calls.mono (by with_reducible exact HM.out) ?_; rintro e w1 ⟨rfl, rfl⟩)
        | (go_at_call 25; refine Calls.mono (by with_reducible exact HR.out) ?_; rintro e w1 ⟨rfl, rfl⟩)
        | (at_lookup; refine wpList_look_miss H.out HS.out HN.out rfl _ _ rfl rfl rfl ?_)
        | (go_at_call 21; refine Calls.mono (by with_reducible exact HRm.out) ?_; rintro e w2 ⟨rfl, hb2⟩; have HB2 := Lib.hid (HB.out.trans (hb2.mono HB.out.size)); clear hb2))
      go_ret
      exact ⟨rfl, HB2.out⟩
  · have HN := Lib.hid hn
    have HE := Lib.hid he
    have hf' : ((room - used (es.map (·.f)) : Nat) : Int) < (m : Int) := by omega
    generalize room - used (es.map (·.f)) = rl at *
    clear h hx hs hb hn hf he
    go_enter Try.func12, Try.ntmps12
    go_wp2_with (first
      | (go_at_call 26; refine Calls.mono (by with_reducible exact HM.out) ?_; rintro e w1 ⟨rfl, rfl⟩)
      | (go_at_call 25; refine Calls.mono (by with_reducible exact HR.out) ?_; rintro e w1 ⟨rfl, rfl⟩)
      | (at_lookup; refine wpList_look_hit H.out HE.out HS.out HN.out rfl _ _ rfl rfl rfl ?_)
      | (go_at_call 21; refine Calls.mono (by with_reducible exact HRm.out) ?_; rintro e w2 ⟨rfl, hb2⟩; have HB2 := Lib.hid (HB.out.trans (hb2.mono HB.out.size)); clear hb2))
    go_ret
    exact ⟨rfl, HB2.out⟩
theorem byt_put (h : StoX w F p bm D es room left) {A : Option Addr} {b : List UInt8} (hy : Byt w A b) (hm : Moved (fun k => k = bm) w w') : Byt w' A b := by
  rcases Nat.eq_zero_or_pos b.length with h0 | h0
  · rw [List.eq_nil_of_length_eq_zero h0]; exact Byt.nil _ _
  · obtain ⟨E, clock, hbm, _⟩ := h.map
    exact Byt.moved hy hm (fun k hk e => byt_map hy hbm h0 (by rw [hk, e]))
theorem own_bytes {e : Ent} (h : StoX w F p bm D es room left) (he : e ∈ es) : w.ownsRow 0 5 1 (.slice e.A e.f.bytes.length e.c) e.f.bytes.length (e.f.bytes.map u8v) := h.row e he
def AppPost (F : Nat → Prop) (p : Nat) (st : St) (w : World) (e : Ending) (w' : World) : Prop :=
  e = .returned (.int .i64 0) ∧ Sto w' (fun k => F k ∨ w.heap.size ≤ k) p st ∧ Moved F w w'
set_option maxHeartbeats 4000000 in
set_option maxRecDepth 20000 in
theorem append_hit (h : StoX w F p bm D es room left) (s : ByteArray) (hs : s.size ≤ maxLen) (A : Option Addr) (b : List UInt8) (c : Nat) (hb : Byt w A b) (hok : okS s = true) (hl : left ≠ 0) {e : Ent} (he : e ∈ es) (hn : e.f.name = s.data.toList) (hfit : ¬ room - used (es.map (·.f)) < b.length) :
    Calls Try.prog 12 #[.pointer (some ⟨p, 0, none⟩), .string s, .slice A b.length c] w (AppPost F p ⟨ins ⟨e.f.name, e.f.bytes ++ b, e.f.sure, e.f.stays⟩ (es.map (·.f)), room, wear left⟩ w) := by
  obtain ⟨i0, hi0, hz0, hz1, hz2⟩ := info_parts u8_info
  have hbl := below_alloc w (.cells #[.string s] 9)
  have hx := h.later hbl
  have HM := Lib.hid (mayBe_one s hs w)
  rw [hok] at HM
  have HR := Lib.hid (refuse_ok hx hl)
  have HRm := Lib.hid (room_any hx)
  have H := Lib.hid hx
  have HS := Lib.hid hs
  have HN := Lib.hid hn
  have HE := Lib.hid he
  have HB := Lib.hid hbl
  have HY := Lib.hid (hb.later hbl)
  have HFi := Lib.hid (h.inF)
  have hfits := h.fits
  have HFt : Hid (used (es.map (·.f)) + b.length ≤ room ∧ room ≤ 67108864) := Lib.hid (by omega)
  have hue : e.f.bytes.length ≤ used (es.map (·.f)) := used_le (List.mem_map.2 ⟨e, he, rfl⟩)
  have HUe := Lib.hid hue
  have hf' : ¬ ((room - used (es.map (·.f)) : Nat) : Int) < (b.length : Int) := by omega
  have hln := fun ty => hx.map.len Try.underlying56 ty
  obtain ⟨c0, c1, c2⟩ := hx.cells
  have HP : Hid (∀ W, StoX W F p bm D es room left → W.cell? ⟨e.a, 0, none⟩ = some (.slice e.A e.f.bytes.length e.c)) := Lib.hid (fun W hW => cell_of_row W e.a 0 _ _ _ (hW.file e he))
  generalize hrl : room - used (es.map (·.f)) = rl at *
  clear h hx hs hbl hn he hb hfits hfit hue hrl
  go_enter Try.func12, Try.ntmps12
  go_wp2_with (first
    | (go_at_call 26; refine Calls.mono (by with_reducible exact HM.out) ?_; rintro e w1 ⟨rfl, rfl⟩)
    | (go_at_call 25; refine Calls.mono (by with_reducible exact HR.out) ?_; rintro e w1 ⟨rfl, rfl⟩)
    | (at_lookup; refine wpList_look_hit H.out HE.out HS.out HN.out rfl _ _ rfl rfl rfl ?_)
    | (go_at_call 21; refine Calls.mono (by with_reducible exact HRm.out) ?_; rintro e' w2 ⟨rfl, hb2⟩; have H2 := Lib.hid (H.out.later hb2); have HY2 := Lib.hid (HY.out.later hb2); have HB2 := Lib.hid (HB.out.trans (hb2.mono HB.out.size)); have c3 := HP.out _ H2.out; clear hb2)
    | (at_builtin; refine wpList_append_byt _ rfl (.tmp 58) (.tmp 59) 31 rfl 5 i0 Try.underlying31 hi0 hz0 hz1 hz2 0 _ e.f.bytes rfl (own_bytes H2.out HE.out) A c b rfl HY2.out (by have := HFt.out; have := HUe.out; omega) (Nat.zero_le _) ?_; intro A3 c4 w3 hown3 hgrow3 hloc3; rw [List.length_append] at hown3 hloc3; have HG := Lib.hid (H2.out.grow HE.out (List.length_append ..).symm hown3 hgrow3 hloc3 HFt.out.1); have hfa := (Moved.grown (p := fun k => e.sl.ownBlock = some k) (Moved.refl _ w2) hgrow3 (fun k _ e => e)).heap (H2.out.file e HE.out) (own_ne (H2.out.row e HE.out) (H2.out.file e HE.out) (by decide)); have c5 : w3.cell? ⟨e.a, 0, none⟩ = some e.sl := cell_of_row w3 e.a 0 _ _ _ hfa; have f5 : w3.frozen? ⟨e.a, 0, none⟩ = false := (cells_of_heap hfa).2 0; have HZ3 : Hid (w2.heap.size ≤ w3.heap.size) := Lib.hid hgrow3.size; clear hown3 hgrow3 hloc3 hfa c0 c1 c2 c3 hln)
    | (go_at_call 27; refine Calls.mono (by with_reducible exact wear_any HG.out.1) ?_; rintro e' w6 ⟨rfl, hx, hm, hz⟩; have HX6 := Lib.hid hx; have HM6 := Lib.hid hm; clear hx hm hz))
  go_ret
  have hs2 := HB2.out.size
  refine ⟨rfl, ⟨bm, D, _, HX6.out.wide (fun k hk => ?_), map_insE _ _⟩, ?_⟩
  · rcases hk with hk | hk
    · exact .inl hk
    · exact .inr (Nat.le_trans hs2 hk)
  · refine ((Below.movedNew HB2.out).trans HG.out.2 (fun k _ hk => ?_)).trans HM6.out (fun k _ hk => ?_)
    · rcases hk with rfl | hk
      · exact (HFi.out.2.2 e HE.out).1
      · exact (HFi.out.2.2 e HE.out).2 k hk
    · rw [hk]; exact HFi.out.1
set_option maxHeartbeats 4000000 in
set_option maxRecDepth 20000 in
theorem append_new (h : StoX w F p bm D es room left) (s : ByteArray) (hs : s.size ≤ maxLen) (A : Option Addr) (b : List UInt8) (c : Nat) (hb : Byt w A b) (hok : okS s = true) (hl : left ≠ 0) (hn : ∀ e ∈ es, e.f.name ≠ s.data.toList) (h64 : ¬ 64 ≤ es.length) (hfit : ¬ room - used (es.map (·.f)) < b.length) :
    Calls Try.prog 12 #[.pointer (some ⟨p, 0, none⟩), .string s, .slice A b.length c] w (AppPost F p ⟨ins ⟨s.data.toList, b, 0, false⟩ (es.map (·.f)), room, wear left⟩ w) := by
  obtain ⟨i0, hi0, hz0, hz1, hz2⟩ := info_parts u8_info
  have hbl := below_alloc w (.cells #[.string s] 9)
  have hx := h.later hbl
  have HM := Lib.hid (mayBe_one s hs w)
  rw [hok] at HM
  have HR := Lib.hid (refuse_ok hx hl)
  have HRm := Lib.hid (room_any hx)
  have H := Lib.hid hx
  have HS := Lib.hid hs
  have HN := Lib.hid hn
  have HB := Lib.hid hbl
  have HOk : Hid (okName s.data.toList = true) := Lib.hid hok
  have HY := Lib.hid (hb.later hbl)
  have HFi := Lib.hid (h.inF)
  have hfits := h.fits
  have HFt : Hid (used (es.map (·.f)) + b.length ≤ room ∧ room ≤ 67108864) := Lib.hid (by omega)
  have hf' : ¬ ((room - used (es.map (·.f)) : Nat) : Int) < (b.length : Int) := by omega
  have h64' : ¬ (64 : Int) ≤ (es.length : Int) := by omega
  have H64 : Hid (es.length < 64) := Lib.hid (by omega)
  have hln := fun ty => hx.map.len Try.underlying56 ty
  rw [hx.size] at hln
  have HT := Lib.hid (hx.map.tidy law_str)
  have HSz : Hid (Maps.size D < maxLen) := Lib.hid (by rw [hx.size]; unfold maxLen; omega)
  obtain ⟨c0, c1, c2⟩ := hx.cells
  have HP : Hid (∀ W, StoX W F p bm D es room left → W.cell? ⟨p, 0, none⟩ = some (.map (some bm))) := Lib.hid (fun W hW => hW.cells.1)
  generalize hrl : room - used (es.map (·.f)) = rl at *
  clear h hx hs hbl hn hb hfits hfit hrl h64
  go_enter Try.func12, Try.ntmps12
  go_wp2_with (first
    | (go_at_call 26; refine Calls.mono (by with_reducible exact HM.out) ?_; rintro e w1 ⟨rfl, rfl⟩)
    | (go_at_call 25; refine Calls.mono (by with_reducible exact HR.out) ?_; rintro e w1 ⟨rfl, rfl⟩)
    | (at_lookup; refine wpList_look_miss H.out HS.out HN.out rfl _ _ rfl rfl rfl ?_)
    | (go_at_call 21; refine Calls.mono (by with_reducible exact HRm.out) ?_; rintro e' w2 ⟨rfl, hb2⟩; have H2 := Lib.hid (H.out.later hb2); have HY2 := Lib.hid (HY.out.later hb2); have HB2 := Lib.hid (HB.out.trans (hb2.mono HB.out.size)); have H2a := Lib.hid (H2.out.later (below_alloc w2 (.cells #[.slice none 0 0, .int .i64 0, .bool false] 67))); have c3 := HP.out _ H2a.out; clear hb2)
    | (at_mapUpdate; refine wpList_mapUpdate_in _ rfl _ _ _ 56 rfl 9 68 law_str Try.underlying56 ptrE bm _ D rfl H2a.out.map HSz.out _ _ _ rfl rfl (key_str HS.out) _ [] (ptrE_some w2.heap.size) ?_; intro w4 hown4 hturn4; have H4 := Lib.hid (H2.out.add HN.out H64.out HOk.out hown4 hturn4.grown HT.out); have hE4 : (⟨⟨s.data.toList, [], 0, false⟩, w2.heap.size, none, 0⟩ : Ent) ∈ insE ⟨⟨s.data.toList, [], 0, false⟩, w2.heap.size, none, 0⟩ es := (mem_insE H2.out.rising).2 (.inl rfl); have HE4 := Lib.hid hE4; have HY4 := Lib.hid (byt_put H2.out HY2.out H4.out.2); have c6 : w4.cell? ⟨w2.heap.size, 0, none⟩ = some (.slice none 0 0) := cell_of_row w4 w2.heap.size 0 _ _ _ (H4.out.1.file _ hE4); have HZ4 : Hid (w2.heap.size ≤ w4.heap.size) := Lib.hid H4.out.2.size; clear hown4 hturn4 c3 hE4 c0 c1 c2)
    | (at_builtin; refine wpList_append_byt _ rfl (.tmp 58) (.tmp 59) 31 rfl 5 i0 Try.underlying31 hi0 hz0 hz1 hz2 0 _ [] rfl (World.ownsRow_nil _ _ _ _) A c b rfl HY4.out (by have := HFt.out; simp only [List.length_nil]; omega) (Nat.zero_le _) ?_; intro A3 c4 w5 hown5 hgrow5 hloc5; simp only [List.nil_append] at hown5 hloc5 ⊢; have HG := Lib.hid (H4.out.1.grow (b := b) (N := b.length) HE4.out rfl hown5 hgrow5 hloc5 (by rw [map_insE, used_ins_new (fun g hg => by obtain ⟨e, he, rfl⟩ := List.mem_map.1 hg; exact HN.out e he)]; have := HFt.out; simp only [List.length_nil]; omega)); have hfa := (Moved.grown (p := fun k => (Value.slice none 0 0).ownBlock = some k) (Moved.refl _ w4) hgrow5 (fun k _ e => e)).heap (H4.out.1.file _ HE4.out) (by intro h; cases h); have c7 : w5.cell? ⟨w2.heap.size, 0, none⟩ = some (.slice none 0 0) := cell_of_row w5 w2.heap.size 0 _ _ _ hfa; have f7 : w5.frozen? ⟨w2.heap.size, 0, none⟩ = false := (cells_of_heap hfa).2 0; clear hown5 hgrow5 hloc5 hfa c6 hln)
    | (go_at_call 27; refine Calls.mono (by with_reducible exact wear_any HG.out.1) ?_; rintro e' w6 ⟨rfl, hx, hm, hz⟩; have HX6 := Lib.hid hx; have HM6 := Lib.hid hm; clear hx hm hz))
  go_ret
  have hs2 := HB2.out.size
  refine ⟨rfl, ⟨bm, _, _, HX6.out.wide (fun k hk => ?_), ?_⟩, ?_⟩
  · rcases hk with (hk | hk) | hk
    · exact .inl hk
    · exact .inr (Nat.le_trans hs2 hk)
    · exact .inr (Nat.le_trans hs2 (Nat.le_trans HZ4.out hk))
  · rw [map_insE, map_insE]
    exact ins_ins (f := ⟨s.data.toList, b, 0, false⟩) (g := ⟨s.data.toList, [], 0, false⟩) rfl _
  · refine (((Below.movedNew HB2.out).trans H4.out.2 (fun k _ hk => ?_)).trans HG.out.2 (fun k hk1 hk => ?_)).trans HM6.out (fun k _ hk => ?_)
    · rw [hk]; exact HFi.out.2.1
    · rcases hk with hk | hk
      · exact absurd hk1 (by rw [hk]; show ¬ w2.heap.size < w.heap.size; omega)
      · cases hk
    · rw [hk]; exact HFi.out.1
/-- Append, as the chapter has it. -/
theorem append_any {st : St} (h : Sto w F p st) (s : ByteArray) (hs : s.size ≤ maxLen) (A : Option Addr) (b : List UInt8) (c : Nat) (hb : Byt w A b) (hm : b.length ≤ maxLen) :
    Calls Try.prog 12 #[.pointer (some ⟨p, 0, none⟩), .string s, .slice A b.length c] w (StepPost F (fun k => F k ∨ w.heap.size ≤ k) p (appendR st s.data.toList b) w) := by
  obtain ⟨bm, D, es, hx, hes⟩ := h
  have hst : ∀ w', Below w.heap.size w w' → Sto w' (fun k => F k ∨ w.heap.size ≤ k) p st ∧ Moved F w w' := fun w' hb => ⟨⟨bm, D, es, (hx.later hb).wide (fun k h => .inl h), hes⟩, Below.movedNew hb⟩
  have hlen : es.length = st.files.length := by rw [← hes, List.length_map]
  unfold appendR
  cases ho : okName s.data.toList
  · rw [if_neg (by simp)]
    exact (append_bad hx s hs A b.length c 1 (by unfold okS; rw [ho]; rfl) (by omega)).mono fun e w' ⟨he, hw⟩ => ⟨he, hst w' hw⟩
  · rw [if_pos rfl]
    have ho' : okS s = true := ho
    by_cases hl : st.left = 0
    · rw [if_pos hl]
      exact (append_bad hx s hs A b.length c 70 (by rw [ho', if_pos rfl, if_pos hl]) (by omega)).mono fun e w' ⟨he, hw⟩ => ⟨he, hst w' hw⟩
    · rw [if_neg hl, ← hes]
      rcases look_cases hx.rising s.data.toList with ⟨h1, h2⟩ | ⟨e, he, hn, h1⟩
      · rw [h1]
        show Calls _ _ _ _ (StepPost _ _ _ (if _ then _ else _) _)
        by_cases hf : 64 ≤ (es.map (·.f)).length ∨ st.room - used (es.map (·.f)) < b.length
        · rw [if_pos hf]
          rw [List.length_map] at hf
          exact (append_full hx s hs A b.length c hm ho' hl (.inl ⟨h2, hf⟩)).mono fun e w' ⟨he, hw⟩ => ⟨he, hst w' hw⟩
        · rw [if_neg hf]
          rw [List.length_map] at hf
          exact append_new hx s hs A b c hb ho' hl h2 (fun h => hf (.inl h)) (fun h => hf (.inr h))
      · rw [h1]
        show Calls _ _ _ _ (StepPost _ _ _ (if _ then _ else _) _)
        by_cases hf : st.room - used (es.map (·.f)) < b.length
        · rw [if_pos hf]
          exact (append_full hx s hs A b.length c hm ho' hl (.inr ⟨⟨e, he, hn⟩, hf⟩)).mono fun e w' ⟨he, hw⟩ => ⟨he, hst w' hw⟩
        · rw [if_neg hf]
          exact append_hit hx s hs A b c hb ho' hl he hn hf
end
end Go.Proofs.Ytobgiialecgpnaa
