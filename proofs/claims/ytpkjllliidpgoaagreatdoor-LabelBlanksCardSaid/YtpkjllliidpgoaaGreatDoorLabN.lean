/- Walks of package label: blanks cut off, a word cut off, a clause made. -/
import Derived.Test.YtpkjllliidpgoaaGreatDoorLabM
import Derived.Test.YtpkjllliidpgoaaGreatDoorLabI
import Derived.Test.YtpkjllliidpgoaaGreatDoorShelfB
set_option linter.unusedSimpArgs false
set_option linter.unusedVariables false
namespace Go.Proofs.YtpkjllliidpgoaaGreatDoor
open Go.ChangeShapes Go.WideShapes Go.ChangeAt Go.RowKit Go.Base Go.Lab

def trimS (l : Bytes) : Bytes := Lib.trimB l 32
def cutA (l : Bytes) : Bytes := l.take (wordLen l)
def cutZ (l : Bytes) : Bytes := Lib.trimLeftB (l.drop (wordLen l)) 32
theorem dropWhile_len (p : UInt8 → Bool) (l : Bytes) : (l.dropWhile p).length ≤ l.length := (List.dropWhile_sublist p).length_le
theorem trimS_len (l : Bytes) : (trimS l).length ≤ l.length := by
  unfold trimS Lib.trimB Lib.trimLeftB Lib.trimRightB
  refine Nat.le_trans (dropWhile_len _ _) ?_
  rw [List.length_reverse]
  exact Nat.le_trans (dropWhile_len _ _) (by simp)
theorem cutA_len (l : Bytes) : (cutA l).length ≤ l.length := by unfold cutA; rw [List.length_take]; exact Nat.min_le_right _ _
theorem cutZ_len (l : Bytes) : (cutZ l).length ≤ l.length := by
  unfold cutZ Lib.trimLeftB
  exact Nat.le_trans (dropWhile_len _ _) (by simp)
set_option maxHeartbeats 1000000 in
theorem trim_l (l : Bytes) (hl : l.length ≤ maxLen) (w : World) :
    Calls Tryz.prog 36 #[strV l] w fun e w' => e = .returned (strV (trimS l)) ∧ Below w.heap.size w w' := by
  have HT := Lib.hid (Tryz.strings_Trim_one ⟨l.toArray⟩ 32 (by decide) w (by unfold maxLen at hl; simpa [ByteArray.size] using hl))
  have HD : Hid ((⟨(Lib.trimB (⟨l.toArray⟩ : ByteArray).data.toList 32).toArray⟩ : ByteArray) = ⟨(trimS l).toArray⟩) := Lib.hid (by unfold trimS; simp)
  clear hl
  go_enter Tryz.func36, Tryz.ntmps36
  go_wp2_with (go_at_call 53; refine HT.out.mono ?_; rintro e w1 ⟨rfl, h⟩; have HB : Hid (Below w.heap.size w w1) := Lib.hid (by rcases h with rfl | rfl; exact Below.refl _ _; exact below_drewN (Below.refl w.heap.size w) 1); clear h)
  go_ret
  exact ⟨by rw [HD.out]; rfl, HB.out⟩
set_option maxHeartbeats 1000000 in
set_option maxRecDepth 20000 in
theorem cutWord_l (l : Bytes) (hl : l.length ≤ maxLen) (w : World) :
    Calls Tryz.prog 57 #[strV l] w fun e w' => e = .returned (.tuple #[strV (cutA l), strV (cutZ l)]) ∧ Below w.heap.size w w' := by
  have hsz : (⟨l.toArray⟩ : ByteArray).size = l.length := by simp [ByteArray.size]
  have HW := Lib.hid (wordLength_any ⟨l.toArray⟩ (by rw [hsz]; exact hl) w)
  unfold maxLen at hl
  have hle : wordLen (⟨l.toArray⟩ : ByteArray).data.toList ≤ (⟨l.toArray⟩ : ByteArray).size := by rw [hsz]; simpa using wordLen_le l
  have HA : Hid ((⟨l.toArray⟩ : ByteArray).extract 0 (wordLen (⟨l.toArray⟩ : ByteArray).data.toList) = ⟨(cutA l).toArray⟩) := Lib.hid (by
    apply ByteArray.ext; unfold cutA; simp)
  have HZ : Hid ((⟨(Lib.trimLeftB (((⟨l.toArray⟩ : ByteArray).extract (wordLen (⟨l.toArray⟩ : ByteArray).data.toList) (⟨l.toArray⟩ : ByteArray).size).data.toList) 32).toArray⟩ : ByteArray) = ⟨(cutZ l).toArray⟩) := Lib.hid (by
    have e : ((⟨l.toArray⟩ : ByteArray).extract (wordLen (⟨l.toArray⟩ : ByteArray).data.toList) (⟨l.toArray⟩ : ByteArray).size).data.toList = l.drop (wordLen l) := by
      rw [hsz]; simp only [ByteArray.data_extract, Array.toList_extract, List.extract_eq_take_drop]; rw [List.take_of_length_le (by simp)]
    rw [e]; rfl)
  have HT := Lib.hid (fun (s : ByteArray) w => Tryz.strings_TrimLeft_one s 32 (by decide) w)
  generalize wordLen (⟨l.toArray⟩ : ByteArray).data.toList = n at *
  show Calls Tryz.prog 57 #[.string ⟨l.toArray⟩] w _
  have hs : (⟨l.toArray⟩ : ByteArray).size ≤ 9223372036854775807 := by omega
  generalize (⟨l.toArray⟩ : ByteArray) = s at *
  clear hl hsz
  have hle' : (n : Int) ≤ (s.size : Int) := by omega
  have hn0 : (0 : Int) ≤ (n : Int) := by omega
  go_enter Tryz.func57, Tryz.ntmps57
  go_wp2_with (go_at_call 29; refine HW.out.mono ?_; rintro e w1 ⟨rfl, rfl⟩)
  go_quiet (with_reducible exact Calls.quiet_of_same (HT.out _ _))
  go_wp2
  go_ret2
  exact ⟨by rw [HA.out, HZ.out]; rfl, below_drewN (Below.refl _ _) _⟩
abbrev clV0 : Value := .agg #[.int .i64 0, .string ⟨#[]⟩, .slice none 0 0]
/-- A call whose first own block is its result, an empty clause as yet. -/
structure ResC (w W : World) : Prop where
  r0 : W.heap[w.heap.size]? = some (.cells #[.int .i64 0, .string ⟨#[]⟩, .slice none 0 0] 42 (0, 0))
  old : Below w.heap.size w W
theorem ResC.start (w : World) : ResC w (w.alloc (.cells #[.int .i64 0, .string ⟨#[]⟩, .slice none 0 0] 42)) := ⟨heap_new _ _, below_alloc _ _⟩
theorem ResC.call {w W W2 : World} (h : ResC w W) (hb : Below W.heap.size W W2) : ResC w W2 :=
  ⟨(hb.block _ (heap_lt h.r0)).trans h.r0, h.old.trans (hb.mono h.old.size)⟩
def MadePost (c : Cl) (w : World) (e : Ending) (w' : World) : Prop := e = .returned (.tuple #[if soundB c then clV c else clV0, .bool (soundB c)]) ∧ Below w.heap.size w w'
set_option maxHeartbeats 2000000 in
theorem made_any (c : Cl) (w : World) (hc : c.Fit w) (hv : ∀ x ∈ c.vals, x.length ≤ maxLen) :
    Calls Tryz.prog 56 #[.int .i64 c.kind, strV c.key, .slice c.la c.vals.length c.lc] w (MadePost c w) := by
  have HS := Lib.hid (fun W (hb : Below w.heap.size w W) => sound_any c W (hc.later hb) hv)
  have HP : Hid (∀ e w', e = .returned (.tuple #[if soundB c then clV c else clV0, .bool (soundB c)]) → Below w.heap.size w w' → MadePost c w e w') := Lib.hid (fun _ _ h1 h2 => ⟨h1, h2⟩)
  have HA := Lib.hid ((ResC.start w).call (below_alloc _ (.cells #[.int .i64 c.kind, strV c.key, .slice c.la c.vals.length c.lc] 42)))
  have H8 : Hid (((w.alloc (.cells #[.int .i64 0, .string ⟨#[]⟩, .slice none 0 0] 42)).alloc (.cells #[.int .i64 c.kind, strV c.key, .slice c.la c.vals.length c.lc] 42)).heap[w.heap.size + 1]? = some (.cells #[.int .i64 c.kind, strV c.key, .slice c.la c.vals.length c.lc] 42 (0, 0))) := Lib.hid (by have := heap_new (w.alloc (.cells #[.int .i64 0, .string ⟨#[]⟩, .slice none 0 0] 42)) (.cells #[.int .i64 c.kind, strV c.key, .slice c.la c.vals.length c.lc] 42); simpa using this)
  generalize MadePost c w = P at *
  generalize soundB c = r at *
  clear hc hv
  obtain ⟨kind, key, la, vals, lc⟩ := c
  simp only at HS HP HA H8
  cases r
  · go_enter Tryz.func56, Tryz.ntmps56
    go_wp2_with (first | (refine wpList_store_new rfl 42 (.tmp 6) (.tmp 16) rfl w.heap.size #[.int .i64 0, .string ⟨#[]⟩, .slice none 0 0] rfl rfl 42 #[.int .i64 0, .string ⟨#[]⟩, .slice none 0 0] HB.out.r0 (by kernel_rfl) rfl rfl ?_) | (go_at_call 32; refine (HS.out _ HA.out.old).mono ?_; rintro e w1 ⟨rfl, hb⟩; have HB := Lib.hid (HA.out.call hb); clear hb))
    intro w2 s2 b2 r2 o2
    obtain ⟨c2, f2⟩ := cells_of_heap r2
    have B2 := Lib.hid (b2 w.heap.size w HB.out.old (Nat.le_refl _))
    clear s2 b2 r2 o2 f2
    go_wp2
    exact bodyPost_ret (v := .tuple #[clV0, .bool false]) (by simp [results, Tryz.results56, go_sem, c2]) rfl (HP.out _ _ rfl B2.out)
  · go_enter Tryz.func56, Tryz.ntmps56
    go_wp2_with (first | (refine wpList_store_new rfl 42 (.tmp 6) (.tmp 17) rfl w.heap.size #[.int .i64 kind, strV key, .slice la vals.length lc] rfl rfl 42 #[.int .i64 0, .string ⟨#[]⟩, .slice none 0 0] HB.out.r0 (by kernel_rfl) rfl rfl ?_) | (go_at_call 32; refine (HS.out _ HA.out.old).mono ?_; rintro e w1 ⟨rfl, hb⟩; have HB := Lib.hid (HA.out.call hb); obtain ⟨c8, f8⟩ := cells_of_heap ((hb.block _ (heap_lt H8.out)).trans H8.out); clear hb f8))
    intro w2 s2 b2 r2 o2
    obtain ⟨c2, f2⟩ := cells_of_heap r2
    have B2 := Lib.hid (b2 w.heap.size w HB.out.old (Nat.le_refl _))
    clear s2 b2 r2 o2 f2 c8
    go_wp2
    exact bodyPost_ret (v := .tuple #[clV ⟨kind, key, la, vals, lc⟩, .bool true]) (by simp [results, Tryz.results56, go_sem, c2]) rfl (HP.out _ _ rfl B2.out)
end Go.Proofs.YtpkjllliidpgoaaGreatDoor
