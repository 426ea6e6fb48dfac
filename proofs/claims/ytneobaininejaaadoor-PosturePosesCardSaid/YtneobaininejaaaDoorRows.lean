/-
  NARROWER THAN 'FOR EVERY INPUT', by the rows' own cells (each row's printed sentence says how): PostureChecks: laid · PostureNotates: laid · PostureMirrors: laid · PostureRotates: laid · PostureBack: laid · PostureMoves: laid · PosturePoses: laid · PostureNotated: laid.
  DERIVED. THE GIVEN ROWS OF THIS SEAT. 8 by the template 'for every input the law returns true; each argument reads behind the call as it read before'; 0 by the template 'total and deterministic' (their statements: YtneobaininejaaaDoorTotals.lean).
  GIVEN WITH THE SEED: the statements are not yours to turn. If you find one false, say at which input.
  Laid BY PROGRAM, IN A SANDBOX (cutbox-rows.mjs): the forced cells as the released guide's own fill.sh prints them over the translation 7ec9f648766e921e… (all of the seat's roots in one cut). By AI agents, Wed Nov 11 2026. No macro, syntax, notation, axiom, sorry.
-/
import Derived.Test.YtneobaininejaaaDoorChecked
import GoSem.Claim
import GoSem.ClaimJoined
import GoSem.ClaimMapViews
import Derived.JoinedTies
import Derived.KernelRfl
namespace Go.Proofs.YtneobaininejaaaDoor
/- THE CELL 'sum', in the pinned program and in every row, IS THE sha256 OF THE DUMP (.gsa) THAT YtneobaininejaaaDoorProg.lean LOADS. Nothing in Lean hashes anything: it is a label: what it is worth is what the hold of that sum in a sandbox is worth. -/
noncomputable def Tryd.pinned : Pinned := { name := "ytneobaininejaaadoor", sum := "7ec9f648766e921eeab3517910bc23d670f7bbe0b625e6efcb2b1c84eb1e28b1", checked := Tryd.checked }
namespace Rows
def none {H : Type} : Left H := { results := [], args := [] }

/- WHAT THE LISTED PACKAGE-LEVEL VARIABLES READ AS WHEN THE CALL BEGINS. Each datum BY PROGRAM (the guide's laid-datum.mjs) off the statement by which the dump's own 'gosem.cut.vars' lays the variable. In a bare row this is a premise. The card (YtneobaininejaaaDoorCards.lean) ties it to the program's text. -/
def laid_dancestudio_angle_sines {H : Type} : DataW H := .agg [.lit (.int .i64 0), .lit (.int .i64 402), .lit (.int .i64 804), .lit (.int .i64 1205), .lit (.int .i64 1606), .lit (.int .i64 2006), .lit (.int .i64 2404), .lit (.int .i64 2801), .lit (.int .i64 3196), .lit (.int .i64 3590), .lit (.int .i64 3981), .lit (.int .i64 4370), .lit (.int .i64 4756), .lit (.int .i64 5139), .lit (.int .i64 5520), .lit (.int .i64 5897), .lit (.int .i64 6270), .lit (.int .i64 6639), .lit (.int .i64 7005), .lit (.int .i64 7366), .lit (.int .i64 7723), .lit (.int .i64 8076), .lit (.int .i64 8423), .lit (.int .i64 8765), .lit (.int .i64 9102), .lit (.int .i64 9434), .lit (.int .i64 9760), .lit (.int .i64 10080), .lit (.int .i64 10394), .lit (.int .i64 10702), .lit (.int .i64 11003), .lit (.int .i64 11297), .lit (.int .i64 11585), .lit (.int .i64 11866), .lit (.int .i64 12140), .lit (.int .i64 12406), .lit (.int .i64 12665), .lit (.int .i64 12916), .lit (.int .i64 13160), .lit (.int .i64 13395), .lit (.int .i64 13623), .lit (.int .i64 13842), .lit (.int .i64 14053), .lit (.int .i64 14256), .lit (.int .i64 14449), .lit (.int .i64 14635), .lit (.int .i64 14811), .lit (.int .i64 14978), .lit (.int .i64 15137), .lit (.int .i64 15286), .lit (.int .i64 15426), .lit (.int .i64 15557), .lit (.int .i64 15679), .lit (.int .i64 15791), .lit (.int .i64 15893), .lit (.int .i64 15986), .lit (.int .i64 16069), .lit (.int .i64 16143), .lit (.int .i64 16207), .lit (.int .i64 16261), .lit (.int .i64 16305), .lit (.int .i64 16340), .lit (.int .i64 16364), .lit (.int .i64 16379), .lit (.int .i64 16384)]
def laid_dancestudio_posture_straightDown {H : Type} : DataW H := .agg [.lit (.int .i64 0), .lit (.int .i64 (-1)), .lit (.int .i64 0)]

/-- 'dancestudiolaw19.PostureChecks': WHATEVER THE INPUT: true; the input reads as it did. -/
def postureChecksSpec : ChangeSpec := { name := "postureChecks", fn := fun _ => fun
  | [d] => { results := [.lit (.bool true)], args := [d] }
  | _ => none }
def postureChecksRow : OpenClaim := { program := "ytneobaininejaaadoor", sum := "7ec9f648766e921eeab3517910bc23d670f7bbe0b625e6efcb2b1c84eb1e28b1", func := "dancestudio/dancestudiolaw19.PostureChecks", spec := "postureChecks", named := ["dancestudio/posture.straightDown", "dancestudio/angle.sines"], apart := false, laid := [("dancestudio/angle.sines", laid_dancestudio_angle_sines), ("dancestudio/posture.straightDown", laid_dancestudio_posture_straightDown)] }
def PostureChecksSaid : Prop := postureChecksRow.holds Tryd.pinned (OpenSpec.ofChange postureChecksSpec)

/-- ITS FALSE NEIGHBOUR: 'it returns false'. Refute it at one input. -/
def postureChecksWrong : ChangeSpec := { name := "postureChecks", fn := fun _ => fun
  | [d] => { results := [.lit (.bool false)], args := [d] }
  | _ => none }
def PostureChecksWrongFalsely : Prop := postureChecksRow.holds Tryd.pinned (OpenSpec.ofChange postureChecksWrong)

/-- 'dancestudiolaw19.PostureNotates': WHATEVER THE INPUT: true; the input reads as it did. -/
def postureNotatesSpec : ChangeSpec := { name := "postureNotates", fn := fun _ => fun
  | [d1, d2] => { results := [.lit (.bool true)], args := [d1, d2] }
  | _ => none }
def postureNotatesRow : OpenClaim := { program := "ytneobaininejaaadoor", sum := "7ec9f648766e921eeab3517910bc23d670f7bbe0b625e6efcb2b1c84eb1e28b1", func := "dancestudio/dancestudiolaw19.PostureNotates", spec := "postureNotates", named := ["dancestudio/posture.straightDown", "dancestudio/angle.sines"], apart := false, laid := [("dancestudio/angle.sines", laid_dancestudio_angle_sines), ("dancestudio/posture.straightDown", laid_dancestudio_posture_straightDown)] }
def PostureNotatesSaid : Prop := postureNotatesRow.holds Tryd.pinned (OpenSpec.ofChange postureNotatesSpec)

/-- ITS FALSE NEIGHBOUR: 'it returns false'. Refute it at one input. -/
def postureNotatesWrong : ChangeSpec := { name := "postureNotates", fn := fun _ => fun
  | [d1, d2] => { results := [.lit (.bool false)], args := [d1, d2] }
  | _ => none }
def PostureNotatesWrongFalsely : Prop := postureNotatesRow.holds Tryd.pinned (OpenSpec.ofChange postureNotatesWrong)

/-- 'dancestudiolaw19.PostureMirrors': WHATEVER THE INPUT: true; the input reads as it did. -/
def postureMirrorsSpec : ChangeSpec := { name := "postureMirrors", fn := fun _ => fun
  | [d1, d2] => { results := [.lit (.bool true)], args := [d1, d2] }
  | _ => none }
def postureMirrorsRow : OpenClaim := { program := "ytneobaininejaaadoor", sum := "7ec9f648766e921eeab3517910bc23d670f7bbe0b625e6efcb2b1c84eb1e28b1", func := "dancestudio/dancestudiolaw19.PostureMirrors", spec := "postureMirrors", named := ["dancestudio/posture.straightDown", "dancestudio/angle.sines"], apart := false, laid := [("dancestudio/angle.sines", laid_dancestudio_angle_sines), ("dancestudio/posture.straightDown", laid_dancestudio_posture_straightDown)] }
def PostureMirrorsSaid : Prop := postureMirrorsRow.holds Tryd.pinned (OpenSpec.ofChange postureMirrorsSpec)

/-- ITS FALSE NEIGHBOUR: 'it returns false'. Refute it at one input. -/
def postureMirrorsWrong : ChangeSpec := { name := "postureMirrors", fn := fun _ => fun
  | [d1, d2] => { results := [.lit (.bool false)], args := [d1, d2] }
  | _ => none }
def PostureMirrorsWrongFalsely : Prop := postureMirrorsRow.holds Tryd.pinned (OpenSpec.ofChange postureMirrorsWrong)

/-- 'dancestudiolaw19.PostureRotates': WHATEVER THE INPUT: true; the input reads as it did. -/
def postureRotatesSpec : ChangeSpec := { name := "postureRotates", fn := fun _ => fun
  | [d1, d2, d3] => { results := [.lit (.bool true)], args := [d1, d2, d3] }
  | _ => none }
def postureRotatesRow : OpenClaim := { program := "ytneobaininejaaadoor", sum := "7ec9f648766e921eeab3517910bc23d670f7bbe0b625e6efcb2b1c84eb1e28b1", func := "dancestudio/dancestudiolaw19.PostureRotates", spec := "postureRotates", named := ["dancestudio/posture.straightDown", "dancestudio/angle.sines"], apart := false, laid := [("dancestudio/angle.sines", laid_dancestudio_angle_sines), ("dancestudio/posture.straightDown", laid_dancestudio_posture_straightDown)] }
def PostureRotatesSaid : Prop := postureRotatesRow.holds Tryd.pinned (OpenSpec.ofChange postureRotatesSpec)

/-- ITS FALSE NEIGHBOUR: 'it returns false'. Refute it at one input. -/
def postureRotatesWrong : ChangeSpec := { name := "postureRotates", fn := fun _ => fun
  | [d1, d2, d3] => { results := [.lit (.bool false)], args := [d1, d2, d3] }
  | _ => none }
def PostureRotatesWrongFalsely : Prop := postureRotatesRow.holds Tryd.pinned (OpenSpec.ofChange postureRotatesWrong)

/-- 'dancestudiolaw19.PostureBack': WHATEVER THE INPUT: true; the input reads as it did. -/
def postureBackSpec : ChangeSpec := { name := "postureBack", fn := fun _ => fun
  | [d1, d2] => { results := [.lit (.bool true)], args := [d1, d2] }
  | _ => none }
def postureBackRow : OpenClaim := { program := "ytneobaininejaaadoor", sum := "7ec9f648766e921eeab3517910bc23d670f7bbe0b625e6efcb2b1c84eb1e28b1", func := "dancestudio/dancestudiolaw19.PostureBack", spec := "postureBack", named := ["dancestudio/posture.straightDown", "dancestudio/angle.sines"], apart := false, laid := [("dancestudio/angle.sines", laid_dancestudio_angle_sines), ("dancestudio/posture.straightDown", laid_dancestudio_posture_straightDown)] }
def PostureBackSaid : Prop := postureBackRow.holds Tryd.pinned (OpenSpec.ofChange postureBackSpec)

/-- ITS FALSE NEIGHBOUR: 'it returns false'. Refute it at one input. -/
def postureBackWrong : ChangeSpec := { name := "postureBack", fn := fun _ => fun
  | [d1, d2] => { results := [.lit (.bool false)], args := [d1, d2] }
  | _ => none }
def PostureBackWrongFalsely : Prop := postureBackRow.holds Tryd.pinned (OpenSpec.ofChange postureBackWrong)

/-- 'dancestudiolaw19.PostureMoves': WHATEVER THE INPUT: true; the input reads as it did. -/
def postureMovesSpec : ChangeSpec := { name := "postureMoves", fn := fun _ => fun
  | [d1, d2] => { results := [.lit (.bool true)], args := [d1, d2] }
  | _ => none }
def postureMovesRow : OpenClaim := { program := "ytneobaininejaaadoor", sum := "7ec9f648766e921eeab3517910bc23d670f7bbe0b625e6efcb2b1c84eb1e28b1", func := "dancestudio/dancestudiolaw19.PostureMoves", spec := "postureMoves", named := ["dancestudio/posture.straightDown", "dancestudio/angle.sines"], apart := false, laid := [("dancestudio/angle.sines", laid_dancestudio_angle_sines), ("dancestudio/posture.straightDown", laid_dancestudio_posture_straightDown)] }
def PostureMovesSaid : Prop := postureMovesRow.holds Tryd.pinned (OpenSpec.ofChange postureMovesSpec)

/-- ITS FALSE NEIGHBOUR: 'it returns false'. Refute it at one input. -/
def postureMovesWrong : ChangeSpec := { name := "postureMoves", fn := fun _ => fun
  | [d1, d2] => { results := [.lit (.bool false)], args := [d1, d2] }
  | _ => none }
def PostureMovesWrongFalsely : Prop := postureMovesRow.holds Tryd.pinned (OpenSpec.ofChange postureMovesWrong)

/-- 'dancestudiolaw19.PosturePoses': WHATEVER THE INPUT: true; the input reads as it did. -/
def posturePosesSpec : ChangeSpec := { name := "posturePoses", fn := fun _ => fun
  | [d1, d2, d3] => { results := [.lit (.bool true)], args := [d1, d2, d3] }
  | _ => none }
def posturePosesRow : OpenClaim := { program := "ytneobaininejaaadoor", sum := "7ec9f648766e921eeab3517910bc23d670f7bbe0b625e6efcb2b1c84eb1e28b1", func := "dancestudio/dancestudiolaw19.PosturePoses", spec := "posturePoses", named := ["dancestudio/angle.sines", "dancestudio/posture.straightDown"], apart := false, laid := [("dancestudio/angle.sines", laid_dancestudio_angle_sines), ("dancestudio/posture.straightDown", laid_dancestudio_posture_straightDown)] }
def PosturePosesSaid : Prop := posturePosesRow.holds Tryd.pinned (OpenSpec.ofChange posturePosesSpec)

/-- ITS FALSE NEIGHBOUR: 'it returns false'. Refute it at one input. -/
def posturePosesWrong : ChangeSpec := { name := "posturePoses", fn := fun _ => fun
  | [d1, d2, d3] => { results := [.lit (.bool false)], args := [d1, d2, d3] }
  | _ => none }
def PosturePosesWrongFalsely : Prop := posturePosesRow.holds Tryd.pinned (OpenSpec.ofChange posturePosesWrong)

/-- 'dancestudiolaw19.PostureNotated': WHATEVER THE INPUT: true; the input reads as it did. -/
def postureNotatedSpec : ChangeSpec := { name := "postureNotated", fn := fun _ => fun
  | [d1, d2] => { results := [.lit (.bool true)], args := [d1, d2] }
  | _ => none }
def postureNotatedRow : OpenClaim := { program := "ytneobaininejaaadoor", sum := "7ec9f648766e921eeab3517910bc23d670f7bbe0b625e6efcb2b1c84eb1e28b1", func := "dancestudio/dancestudiolaw19.PostureNotated", spec := "postureNotated", named := ["dancestudio/posture.straightDown", "dancestudio/angle.sines"], apart := false, laid := [("dancestudio/angle.sines", laid_dancestudio_angle_sines), ("dancestudio/posture.straightDown", laid_dancestudio_posture_straightDown)] }
def PostureNotatedSaid : Prop := postureNotatedRow.holds Tryd.pinned (OpenSpec.ofChange postureNotatedSpec)

/-- ITS FALSE NEIGHBOUR: 'it returns false'. Refute it at one input. -/
def postureNotatedWrong : ChangeSpec := { name := "postureNotated", fn := fun _ => fun
  | [d1, d2] => { results := [.lit (.bool false)], args := [d1, d2] }
  | _ => none }
def PostureNotatedWrongFalsely : Prop := postureNotatedRow.holds Tryd.pinned (OpenSpec.ofChange postureNotatedWrong)

/- THE SECOND FORM. 'bulk': how many values and letters a reading holds, each counted each time it is reached (what is shared counts as often as it is met; a slice's spare places count too). A statement '..UptoSaid' is the law's where the arguments, and the package variables that the reading takes, are together of bulk at most 1048576: NARROWER than '..Said'. Prove '..Said' where nothing that the law and all that it calls make is longer than what came in: it says more and counts as full. Else prove '..UptoSaid'. A law counts once. -/
mutual
def uptoBulk {H : Type} : DataW H → Nat
  | .lit (.string bytes) => bytes.length + 1
  | .lit _ => 1
  | .nil => 1
  | .ptr d => uptoBulk d + 1
  | .slice elems spare => uptoBulkAll elems + uptoBulkAll spare + 1
  | .agg parts => uptoBulkAll parts + 1
  | .iface _ d => uptoBulk d + 1
  | .map entries => uptoBulkEntries entries + 1
  | .held _ => 1
def uptoBulkAll {H : Type} : List (DataW H) → Nat
  | [] => 0
  | d :: r => uptoBulk d + uptoBulkAll r
def uptoBulkEntries {H : Type} : List (Lit × DataW H) → Nat
  | [] => 0
  | x :: r => uptoBulkEntry x + uptoBulkEntries r
def uptoBulkEntry {H : Type} : Lit × DataW H → Nat
  | (.string bytes, d) => bytes.length + uptoBulk d + 1
  | (_, d) => uptoBulk d + 1
 end
def uptoSmall : (H : Type) → List (DataW H) → Bool := fun _ ds => decide (uptoBulkAll ds ≤ 1048576)
def OpenSpec.upto (s : _root_.Go.ChangeSpec) : _root_.Go.OpenSpec := { _root_.Go.OpenSpec.ofChange s with cond := some uptoSmall }

/-- 'dancestudiolaw19.PostureChecks', WHERE WHAT IT READS IS OF BULK AT MOST 1048576: true; the input reads as it did. -/
def postureChecksUptoRow : OpenClaim := { program := "ytneobaininejaaadoor", sum := "7ec9f648766e921eeab3517910bc23d670f7bbe0b625e6efcb2b1c84eb1e28b1", func := "dancestudio/dancestudiolaw19.PostureChecks", spec := "postureChecks", named := ["dancestudio/posture.straightDown", "dancestudio/angle.sines"], apart := false, laid := [("dancestudio/angle.sines", laid_dancestudio_angle_sines), ("dancestudio/posture.straightDown", laid_dancestudio_posture_straightDown)], narrowed := true }
def PostureChecksUptoSaid : Prop := postureChecksUptoRow.holds Tryd.pinned (OpenSpec.upto postureChecksSpec)

/-- 'dancestudiolaw19.PostureNotates', WHERE WHAT IT READS IS OF BULK AT MOST 1048576: true; the input reads as it did. -/
def postureNotatesUptoRow : OpenClaim := { program := "ytneobaininejaaadoor", sum := "7ec9f648766e921eeab3517910bc23d670f7bbe0b625e6efcb2b1c84eb1e28b1", func := "dancestudio/dancestudiolaw19.PostureNotates", spec := "postureNotates", named := ["dancestudio/posture.straightDown", "dancestudio/angle.sines"], apart := false, laid := [("dancestudio/angle.sines", laid_dancestudio_angle_sines), ("dancestudio/posture.straightDown", laid_dancestudio_posture_straightDown)], narrowed := true }
def PostureNotatesUptoSaid : Prop := postureNotatesUptoRow.holds Tryd.pinned (OpenSpec.upto postureNotatesSpec)

/-- 'dancestudiolaw19.PostureMirrors', WHERE WHAT IT READS IS OF BULK AT MOST 1048576: true; the input reads as it did. -/
def postureMirrorsUptoRow : OpenClaim := { program := "ytneobaininejaaadoor", sum := "7ec9f648766e921eeab3517910bc23d670f7bbe0b625e6efcb2b1c84eb1e28b1", func := "dancestudio/dancestudiolaw19.PostureMirrors", spec := "postureMirrors", named := ["dancestudio/posture.straightDown", "dancestudio/angle.sines"], apart := false, laid := [("dancestudio/angle.sines", laid_dancestudio_angle_sines), ("dancestudio/posture.straightDown", laid_dancestudio_posture_straightDown)], narrowed := true }
def PostureMirrorsUptoSaid : Prop := postureMirrorsUptoRow.holds Tryd.pinned (OpenSpec.upto postureMirrorsSpec)

/-- 'dancestudiolaw19.PostureRotates', WHERE WHAT IT READS IS OF BULK AT MOST 1048576: true; the input reads as it did. -/
def postureRotatesUptoRow : OpenClaim := { program := "ytneobaininejaaadoor", sum := "7ec9f648766e921eeab3517910bc23d670f7bbe0b625e6efcb2b1c84eb1e28b1", func := "dancestudio/dancestudiolaw19.PostureRotates", spec := "postureRotates", named := ["dancestudio/posture.straightDown", "dancestudio/angle.sines"], apart := false, laid := [("dancestudio/angle.sines", laid_dancestudio_angle_sines), ("dancestudio/posture.straightDown", laid_dancestudio_posture_straightDown)], narrowed := true }
def PostureRotatesUptoSaid : Prop := postureRotatesUptoRow.holds Tryd.pinned (OpenSpec.upto postureRotatesSpec)

/-- 'dancestudiolaw19.PostureBack', WHERE WHAT IT READS IS OF BULK AT MOST 1048576: true; the input reads as it did. -/
def postureBackUptoRow : OpenClaim := { program := "ytneobaininejaaadoor", sum := "7ec9f648766e921eeab3517910bc23d670f7bbe0b625e6efcb2b1c84eb1e28b1", func := "dancestudio/dancestudiolaw19.PostureBack", spec := "postureBack", named := ["dancestudio/posture.straightDown", "dancestudio/angle.sines"], apart := false, laid := [("dancestudio/angle.sines", laid_dancestudio_angle_sines), ("dancestudio/posture.straightDown", laid_dancestudio_posture_straightDown)], narrowed := true }
def PostureBackUptoSaid : Prop := postureBackUptoRow.holds Tryd.pinned (OpenSpec.upto postureBackSpec)

/-- 'dancestudiolaw19.PostureMoves', WHERE WHAT IT READS IS OF BULK AT MOST 1048576: true; the input reads as it did. -/
def postureMovesUptoRow : OpenClaim := { program := "ytneobaininejaaadoor", sum := "7ec9f648766e921eeab3517910bc23d670f7bbe0b625e6efcb2b1c84eb1e28b1", func := "dancestudio/dancestudiolaw19.PostureMoves", spec := "postureMoves", named := ["dancestudio/posture.straightDown", "dancestudio/angle.sines"], apart := false, laid := [("dancestudio/angle.sines", laid_dancestudio_angle_sines), ("dancestudio/posture.straightDown", laid_dancestudio_posture_straightDown)], narrowed := true }
def PostureMovesUptoSaid : Prop := postureMovesUptoRow.holds Tryd.pinned (OpenSpec.upto postureMovesSpec)

/-- 'dancestudiolaw19.PosturePoses', WHERE WHAT IT READS IS OF BULK AT MOST 1048576: true; the input reads as it did. -/
def posturePosesUptoRow : OpenClaim := { program := "ytneobaininejaaadoor", sum := "7ec9f648766e921eeab3517910bc23d670f7bbe0b625e6efcb2b1c84eb1e28b1", func := "dancestudio/dancestudiolaw19.PosturePoses", spec := "posturePoses", named := ["dancestudio/angle.sines", "dancestudio/posture.straightDown"], apart := false, laid := [("dancestudio/angle.sines", laid_dancestudio_angle_sines), ("dancestudio/posture.straightDown", laid_dancestudio_posture_straightDown)], narrowed := true }
def PosturePosesUptoSaid : Prop := posturePosesUptoRow.holds Tryd.pinned (OpenSpec.upto posturePosesSpec)

/-- 'dancestudiolaw19.PostureNotated', WHERE WHAT IT READS IS OF BULK AT MOST 1048576: true; the input reads as it did. -/
def postureNotatedUptoRow : OpenClaim := { program := "ytneobaininejaaadoor", sum := "7ec9f648766e921eeab3517910bc23d670f7bbe0b625e6efcb2b1c84eb1e28b1", func := "dancestudio/dancestudiolaw19.PostureNotated", spec := "postureNotated", named := ["dancestudio/posture.straightDown", "dancestudio/angle.sines"], apart := false, laid := [("dancestudio/angle.sines", laid_dancestudio_angle_sines), ("dancestudio/posture.straightDown", laid_dancestudio_posture_straightDown)], narrowed := true }
def PostureNotatedUptoSaid : Prop := postureNotatedUptoRow.holds Tryd.pinned (OpenSpec.upto postureNotatedSpec)

end Rows
end Go.Proofs.YtneobaininejaaaDoor
