/- Package plan: Runs, whatever comes in. -/
import Derived.Test.YtnikhhbnbeljeaaGreatDoorPlnM
set_option linter.unusedSimpArgs false
set_option linter.unusedVariables false
namespace Go.Proofs.YtnikhhbnbeljeaaGreatDoor.PL
open Go.ChangeShapes Go.WideShapes Go.ChangeAt Go.RowKit Go.Base Go.Lab Go.Civ Go.Wire

def RunsPost (j : Jb) (ver occ : Int) (hs : List Int) (w : World) (e : Ending) (w' : World) : Prop :=
  (∀ c, runsR j ver occ hs = .error c → e = .returned (.tuple #[.slice none 0 0, .int .i64 c])) ∧
  (∀ l, runsR j ver occ hs = .ok l → ∃ g, e = .returned (.tuple #[.slice (some ⟨g, 0, none⟩) l.length l.length, .int .i64 0]) ∧ RunsAt w' g l.length (runF j ver occ l) ∧ w.heap.size ≤ g) ∧ Below w.heap.size w w'
theorem runs_any (j : Jb) (ver occ : Int) (A : Option Addr) (hs : List Int) (c : Nat) (w : World) (hj : j.Ok w) (hv : I64 ver) (ho : I64 occ) (hN : Nums w A hs) (hm : hs.length ≤ maxLen) (hT : Tb w) :
    Calls Tryz.prog 32 #[jobV j, .int .i64 ver, .int .i64 occ, .slice A hs.length c] w (RunsPost j ver occ hs w) := by
  have err : ∀ (z : Int), runsR j ver occ hs = .error z → ∀ e w', (e = .returned (.tuple #[.slice none 0 0, .int .i64 z]) ∧ Below w.heap.size w w') → RunsPost j ver occ hs w e w' := fun z hz e w' h =>
    ⟨(fun c' h' => by rw [hz] at h'; injection h' with h'; subst h'; exact h.1), (fun l h' => by rw [hz] at h'; cases h'), h.2⟩
  cases hq1 : occOk j ver occ
  · exact (runs_err j ver occ A hs c w hj hv ho hT hq1).mono (err 1 (by unfold runsR; rw [hq1]; rfl))
  · cases hq2 : hostsOk j.name occ hs
    · exact (runs_err2 j ver occ A hs c w hj hv ho hN hm hT hq1 hq2).mono (err 1 (by unfold runsR; rw [hq1, hq2]; rfl))
    · by_cases hbig : 4096 < hs.length
      · exact (runs_long j ver occ A hs c w hj hv ho hN hm hT hq1 hq2 hbig).mono (err 3 (by unfold runsR; rw [hq1, hq2, if_neg (by decide), if_pos hbig]))
      · have hz : runsR j ver occ hs = .ok (ordH (rankN j.name occ) hs) := by unfold runsR; rw [hq1, hq2, if_neg (by decide), if_neg hbig]
        refine (runs_main j ver occ A hs c w hj hv ho hN (by omega) hT hq1 hq2).mono (fun e w' h => ?_)
        obtain ⟨g, he, hr, hg, hb⟩ := h
        have hl := ordH_len (rankN j.name occ) hs
        exact ⟨(fun c' h' => by rw [hz] at h'; cases h'), (fun l h' => by rw [hz] at h'; injection h' with h'; subst h'; exact ⟨g, by rw [he, hl], by rw [hl]; exact hr, hg⟩), hb⟩
end Go.Proofs.YtnikhhbnbeljeaaGreatDoor.PL
