/- Package plan: the runs that Runs hands back, as runs in a slice; how many waves they have. -/
import Derived.Test.YtnikhhbnbeljeaaGreatDoorPlnMa
import Derived.Test.YtnikhhbnbeljeaaGreatDoorPlnP
import Derived.Test.YtnikhhbnbeljeaaGreatDoorPlnQ
set_option linter.unusedSimpArgs false
set_option linter.unusedVariables false
namespace Go.Proofs.YtnikhhbnbeljeaaGreatDoor.PL
open Go.ChangeShapes Go.WideShapes Go.ChangeAt Go.RowKit Go.Base Go.Lab Go.Civ Go.Wire

def rnOf (j : Jb) (ver occ : Int) (h : Int) (i : Nat) : Rn := ⟨j.name, occ, h, ver, occ + jitN j h, occ + j.dea, wvN j.wav i⟩
def runsOf (j : Jb) (ver occ : Int) (L : List Int) : List Rn := (List.range L.length).map fun i => rnOf j ver occ (L.getD i 0) i
theorem runsOf_len (j : Jb) (ver occ : Int) (L : List Int) : (runsOf j ver occ L).length = L.length := by unfold runsOf; simp
theorem runsOf_at (j : Jb) (ver occ : Int) (L : List Int) (i : Nat) (h : i < L.length) : (runsOf j ver occ L)[i]'(by rw [runsOf_len]; exact h) = rnOf j ver occ (L.getD i 0) i := by
  unfold runsOf; simp
theorem rns_of {j : Jb} {ver occ : Int} {L : List Int} {w : World} {g : Nat} (h : RunsAt w g L.length (runF j ver occ L)) : Rns w (some ⟨g, 0, none⟩) (runsOf j ver occ L) := fun i hi => by
  have hi' : i < L.length := by rw [runsOf_len] at hi; exact hi
  refine ⟨g, 0, rfl, ?_⟩
  rw [runsOf_at j ver occ L i hi', Nat.zero_add]
  exact h i hi'
theorem wvN_mono {wav : Int} (h : 0 ≤ wav) {i k : Nat} (hik : i ≤ k) : wvN wav i ≤ wvN wav k := by
  unfold wvN
  split
  · exact Int.le_refl _
  · exact Int.ediv_le_ediv (by omega) (by omega)
theorem wvN_bd {wav : Int} (h : 0 ≤ wav) (i : Nat) : 0 ≤ wvN wav i ∧ wvN wav i ≤ i := by
  unfold wvN
  split
  · omega
  · exact ⟨Int.ediv_nonneg (by omega) h, Int.ediv_le_self _ (by omega)⟩
theorem runs_wv {j : Jb} {ver occ : Int} {L : List Int} (h : 0 ≤ j.wav) (hl : L.length ≤ 1000000) : WvOk (runsOf j ver occ L) := fun r hr => by
  obtain ⟨i, hi, rfl⟩ := List.mem_iff_getElem.1 hr
  rw [runsOf_len] at hi
  rw [runsOf_at j ver occ L i hi]
  have := wvN_bd h i
  show 0 ≤ wvN j.wav i ∧ wvN j.wav i ≤ 1099511627776
  omega
theorem runs_waves {j : Jb} {ver occ : Int} {L : List Int} (h : 0 ≤ j.wav) (h0 : 0 < L.length) : wavesR (runsOf j ver occ L) = wvN j.wav (L.length - 1) + 1 := by
  have hk : L.length - 1 < L.length := by omega
  have hm : (runsOf j ver occ L)[L.length - 1]'(by rw [runsOf_len]; exact hk) ∈ runsOf j ver occ L := List.getElem_mem _
  rw [runsOf_at j ver occ L _ hk] at hm
  refine wavesR_max hm (fun x hx => ?_) (wvN_bd h _).1
  obtain ⟨i, hi, rfl⟩ := List.mem_iff_getElem.1 hx
  rw [runsOf_len] at hi
  rw [runsOf_at j ver occ L i hi]
  exact wvN_mono h (by omega)
theorem job_any (w : World) :
    Calls Tryz.prog 82 #[.string ⟨#[97]⟩] w fun e w' => e = .returned (jobV (jobA 0 0)) ∧ Below w.heap.size w w' := by
  obtain ⟨z, hz⟩ : ∃ z, z = jobV (jobA 0 0) := ⟨_, rfl⟩
  simp only [jobV, jobC, jobA, spA, List.length_nil] at hz
  have HZ : Hid (jobV (jobA 0 0) = .agg #[.string ⟨#[97]⟩, .int .u64 1, .int .u64 8, .int .u64 4294967294, .int .u64 8190, .int .u64 127, .bool true, .bool true, .slice none 0 0, .int .i64 0, .int .i64 0, .int .i64 100, .int .i64 0, .int .i64 3600, .int .i64 1, .int .i64 0]) := Lib.hid rfl
  rw [HZ.out]
  clear hz HZ
  go_enter Tryz.func82, Tryz.ntmps82
  go_wp2
  exact bodyPost_ret (v := .agg #[.string ⟨#[97]⟩, .int .u64 1, .int .u64 8, .int .u64 4294967294, .int .u64 8190, .int .u64 127, .bool true, .bool true, .slice none 0 0, .int .i64 0, .int .i64 0, .int .i64 100, .int .i64 0, .int .i64 3600, .int .i64 1, .int .i64 0]) (by simp [results, Tryz.results82, go_sem]) rfl ⟨rfl, by go_grown⟩
end Go.Proofs.YtnikhhbnbeljeaaGreatDoor.PL
