/- Walks of package cron: whether a time matches. -/
import Derived.Test.YtnikhhbnbeljeaaGreatDoorCivA
import Derived.Test.YtnikhhbnbeljeaaGreatDoorCroA
import Derived.Test.YtnikhhbnbeljeaaGreatDoorBase
import Derived.Test.YtnikhhbnbeljeaaGreatDoorSmA
import Derived.Test.YtnikhhbnbeljeaaGreatDoorProg
import Derived.PlainAid
import Derived.Lib.Bytealg
import Derived.WalkKit
import Derived.Handy
import Derived.ProofKit
import Derived.OpenShut
import Derived.Deep.DeepHandedRow
import Derived.Lib.Hide
import Derived.Laws.Tables
import Derived.Carry
import Derived.Deep.QuietTactic
import Derived.BigQuiet
import Derived.Outline
import Derived.Laws.ShiftsVar
import Derived.WalkSmall
import Derived.WalkSpells
import Derived.Lib.Strings
import Derived.Deep.Cut
import Derived.RangeFuncNested
import Derived.RangeFuncBound
import Derived.RangeFuncCalls
import Derived.RangeFuncLeaves
import Derived.RangeFuncFrom
import Derived.Shelf.Abstract
import Derived.Shelf.RegionOpen
import Derived.OwnWalkIn
import Derived.TacticsInMore
import Derived.LoopNIn
import Derived.LoopIn
import Derived.Laws.EntriesVeiled
import Derived.OrdersIn
import Derived.Deep.RegionHeld3
import Derived.Deep.MidRow
import Derived.Shelf.Strings.OnBuilder
import Derived.Lib.LaidTab
import Derived.Laws.BitsAllLaws
import Derived.Lib.ItoaNum
set_option linter.unusedSimpArgs false
set_option linter.unusedVariables false
namespace Go.Proofs.YtnikhhbnbeljeaaGreatDoor
open Go.ChangeShapes Go.WideShapes Go.ChangeAt Go.RowKit Go.Base Go.Cro Go.Civ

/-- Is the bit v set? -/
def hasB (b v : Int) : Bool := bits .and .u64 (b / 2 ^ v.toNat) 1 == 1
theorem has_any (b v : Int) (w : World) (h0 : 0 ≤ v) (h1 : v ≤ 63) (hb : 0 ≤ b) (hb' : b ≤ 18446744073709551615) :
    Calls Tryz.prog 202 #[.int .u64 b, .int .i64 v] w fun e w' => e = .returned (.bool (hasB b v)) ∧ w' = w := by
  have H : Hid (hasB b v = (bits .and .u64 (b / 2 ^ v.toNat) 1 == 1)) := Lib.hid rfl
  go_enter Tryz.func202, Tryz.ntmps202
  go_wp2
  go_ret
  exact ⟨ret_bool H.out.symm, rfl⟩

structure Sp where
  mi : Int
  ho : Int
  da : Int
  mo : Int
  we : Int
  ad : Bool
  aw : Bool
abbrev spV (s : Sp) : Value := .agg #[.int .u64 s.mi, .int .u64 s.ho, .int .u64 s.da, .int .u64 s.mo, .int .u64 s.we, .bool s.ad, .bool s.aw]
structure SpOk (s : Sp) : Prop where
  mi : U64 s.mi
  ho : U64 s.ho
  da : U64 s.da
  mo : U64 s.mo
  we : U64 s.we
/-- Is the day one of the spec's? -/
def dayB (s : Sp) (d wk : Int) : Bool := if s.ad || s.aw then hasB s.da d && hasB s.we wk else hasB s.da d || hasB s.we wk

end Go.Proofs.YtnikhhbnbeljeaaGreatDoor
