/- Walks of package store: find, change. -/
import Derived.Test.YtobgiialecgpnaaStoF
import Derived.Test.YtobgiialecgpnaaStoN
set_option linter.unusedSimpArgs false
set_option linter.unusedVariables false
namespace Go.Proofs.Ytobgiialecgpnaa
open Go.ChangeShapes Go.WideShapes Go.ChangeAt Go.RowKit Go.Base Go.Sto Go.Maps

theorem zeroPtr (w : World) : (zeroValue 68).run Try.prog w = .ok (.pointer none) w := by kernel_rfl
section
variable {w : World} {F : Nat → Prop} {p bm : Nat} {D : DataW Unit} {es : List Ent} {room : Nat} {left : Int}
theorem key_str {s : ByteArray} (hs : s.size ≤ maxLen) : keyOf Try.prog 9 (.string s) = some (.string s.data.toList) := Go.WideMaps.keyOf_string_mk Try.underlying9 hs
theorem wpList_look_hit {ops : Array Oper} {rest : List Oper} {o : Oper} {a : Act} {Q : Exit → Act → World → Prop} (h : StoX w F p bm D es room left) {e : Ent} (he : e ∈ es) {s : ByteArray} (hs : s.size ≤ maxLen) (hn : e.f.name = s.data.toList)
    (hg : o.guard = none) (m x : Operand) (hop : o.op = Op.lookup 56 m x true) (hm : a.eval m = .map (some bm)) (hx : a.eval x = .string s)
    (hK : wpList Try.prog ops Q rest (a.put o.dst (.tuple #[.pointer (some ⟨e.a, 0, none⟩), .bool true])) w) : wpList Try.prog ops Q (o :: rest) a w := by
  refine wpList_lookup_own_ok w hg m x _ hop 9 68 law_str Try.underlying56 ptrE (zeroPtr w) _ _ ptrE_none bm _ D hm h.map _ _ hx (key_str hs) (fun v ps hv => ?_)
  rw [← hn, h.at_ e he] at hv
  obtain rfl := ptrE_inv hv
  have : Maps.has D (.string s.data.toList) = true := (h.has _).2 ⟨e, he, hn⟩
  rw [this]; exact hK
theorem wpList_look_miss {ops : Array Oper} {rest : List Oper} {o : Oper} {a : Act} {Q : Exit → Act → World → Prop} (h : StoX w F p bm D es room left) {s : ByteArray} (hs : s.size ≤ maxLen) (hn : ∀ e ∈ es, e.f.name ≠ s.data.toList)
    (hg : o.guard = none) (m x : Operand) (hop : o.op = Op.lookup 56 m x true) (hm : a.eval m = .map (some bm)) (hx : a.eval x = .string s)
    (hK : wpList Try.prog ops Q rest (a.put o.dst (.tuple #[.pointer none, .bool false])) w) : wpList Try.prog ops Q (o :: rest) a w := by
  refine wpList_lookup_own_ok w hg m x _ hop 9 68 law_str Try.underlying56 ptrE (zeroPtr w) _ _ ptrE_none bm _ D hm h.map _ _ hx (key_str hs) (fun v ps hv => ?_)
  have hf : Maps.has D (.string s.data.toList) = false := by
    rw [Bool.eq_false_iff]; intro h2
    obtain ⟨e, he, e2⟩ := (h.has _).1 h2
    exact hn e he e2
  rw [Maps.atKey_of_not_has hf] at hv
  obtain rfl := ptrE_inv_none hv
  rw [hf]; exact hK
/-- What find answers: a number, and a file or none. -/
theorem find_bad (h : StoX w F p bm D es room left) (s : ByteArray) (ok : Bool) (n : Nat) (hn : n = (if ok then (if left = 0 then 70 else 0) else 1 : Nat)) (h0 : n ≠ 0) :
    Calls Try.prog 47 #[.pointer (some ⟨p, 0, none⟩), .string s, .bool ok] w fun e w' => e = .returned (.tuple #[.pointer none, .int .i64 (n : Int)]) ∧ w = w' := by
  have HR := Lib.hid (refuse_any h ok)
  rw [← hn] at HR
  have hz : ¬ (n : Int) = 0 := by omega
  clear h hn
  go_enter Try.func47, Try.ntmps47
  go_wp2_with (go_at_call 25; refine Calls.mono (by with_reducible exact HR.out) ?_; rintro e w1 ⟨rfl, rfl⟩)
  go_ret2
  exact ⟨rfl, rfl⟩
theorem refuse_ok (h : StoX w F p bm D es room left) (hl : left ≠ 0) : Calls Try.prog 25 #[.pointer (some ⟨p, 0, none⟩), .bool true] w fun e w' => e = .returned (.int .i64 0) ∧ w = w' := by
  have := refuse_any h true
  rw [if_pos rfl, if_neg hl] at this
  exact this
theorem find_none (h : StoX w F p bm D es room left) (s : ByteArray) (hs : s.size ≤ maxLen) (hl : left ≠ 0) (hn : ∀ e ∈ es, e.f.name ≠ s.data.toList) :
    Calls Try.prog 47 #[.pointer (some ⟨p, 0, none⟩), .string s, .bool true] w fun e w' => e = .returned (.tuple #[.pointer none, .int .i64 4]) ∧ w = w' := by
  have HR := Lib.hid (refuse_ok h hl)
  have H := Lib.hid h
  have HN := Lib.hid hn
  have HS := Lib.hid hs
  obtain ⟨c0, c1, c2⟩ := h.cells
  clear h hn hl hs
  go_enter Try.func47, Try.ntmps47
  go_wp2_with (first
    | (go_at_call 25; refine Calls.mono (by with_reducible exact HR.out) ?_; rintro e w1 ⟨rfl, rfl⟩)
    | (at_lookup; refine wpList_look_miss H.out HS.out HN.out rfl _ _ rfl rfl rfl ?_))
  go_ret2
  exact ⟨rfl, rfl⟩
theorem find_some (h : StoX w F p bm D es room left) (s : ByteArray) (hs : s.size ≤ maxLen) (hl : left ≠ 0) {e : Ent} (he : e ∈ es) (hn : e.f.name = s.data.toList) :
    Calls Try.prog 47 #[.pointer (some ⟨p, 0, none⟩), .string s, .bool true] w fun e' w' => e' = .returned (.tuple #[.pointer (some ⟨e.a, 0, none⟩), .int .i64 0]) ∧ w = w' := by
  have HR := Lib.hid (refuse_ok h hl)
  have H := Lib.hid h
  have HN := Lib.hid hn
  have HE := Lib.hid he
  have HS := Lib.hid hs
  obtain ⟨c0, c1, c2⟩ := h.cells
  clear h hn hl he hs
  go_enter Try.func47, Try.ntmps47
  go_wp2_with (first
    | (go_at_call 25; refine Calls.mono (by with_reducible exact HR.out) ?_; rintro e w1 ⟨rfl, rfl⟩)
    | (at_lookup; refine wpList_look_hit H.out HE.out HS.out HN.out rfl _ _ rfl rfl rfl ?_))
  go_ret2
  exact ⟨rfl, rfl⟩
/-- change: what is refused. -/
theorem change_bad (h : StoX w F p bm D es room left) (s : ByteArray) (ok : Bool) (fv : Value) (n : Nat) (hn : n = (if ok then (if left = 0 then 70 else 0) else 1 : Nat)) (h0 : n ≠ 0) :
    Calls Try.prog 40 #[.pointer (some ⟨p, 0, none⟩), .string s, .bool ok, fv] w fun e w' => e = .returned (.int .i64 (n : Int)) ∧ w = w' := by
  have HF := Lib.hid (find_bad h s ok n hn h0)
  have hz : ¬ (n : Int) = 0 := by omega
  clear h hn
  go_enter Try.func40, Try.ntmps40
  go_wp2_with (go_at_call 47; refine Calls.mono (by with_reducible exact HF.out) ?_; rintro e w1 ⟨rfl, rfl⟩)
  go_ret
  exact ⟨rfl, rfl⟩
theorem change_none (h : StoX w F p bm D es room left) (s : ByteArray) (hs : s.size ≤ maxLen) (fv : Value) (hl : left ≠ 0) (hn : ∀ e ∈ es, e.f.name ≠ s.data.toList) :
    Calls Try.prog 40 #[.pointer (some ⟨p, 0, none⟩), .string s, .bool true, fv] w fun e w' => e = .returned (.int .i64 4) ∧ w = w' := by
  have HF := Lib.hid (find_none h s hs hl hn)
  clear h hn hs
  go_enter Try.func40, Try.ntmps40
  go_wp2_with (go_at_call 47; refine Calls.mono (by with_reducible exact HF.out) ?_; rintro e w1 ⟨rfl, rfl⟩)
  go_ret
  exact ⟨rfl, rfl⟩
end
end Go.Proofs.Ytobgiialecgpnaa
