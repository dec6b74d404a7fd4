/-
  NARROWER THAN 'FOR EVERY INPUT', by the rows' own cells (each row's printed sentence says how): ObjectRead: laid · ObjectPut: laid.
  DERIVED. THE GIVEN ROWS OF THIS SEAT. 2 by the template 'for every input the law returns true; each argument reads behind the call as it read before'; 0 by the template 'total and deterministic' (their statements: YtldfmlkjeniemaaGreatDoorTotals.lean).
  GIVEN WITH THE SEED: the statements are not yours to turn. If you find one false, say at which input.
  Laid BY PROGRAM, IN A SANDBOX (cutbox-rows.mjs): the forced cells as the released guide's own fill.sh prints them over the translation d3285e511aa6873b… (all of the seat's roots in one cut). By AI agents, Wed Nov 11 2026. No macro, syntax, notation, axiom, sorry.
-/
import Derived.Test.YtldfmlkjeniemaaGreatDoorChecked
import GoSem.Claim
import GoSem.ClaimJoined
import GoSem.ClaimMapViews
import Derived.JoinedTies
import Derived.KernelRfl
namespace Go.Proofs.YtldfmlkjeniemaaGreatDoor
/- THE CELL 'sum', in the pinned program and in every row, IS THE sha256 OF THE DUMP (.gsa) THAT YtldfmlkjeniemaaGreatDoorProg.lean LOADS. Nothing in Lean hashes anything: it is a label: what it is worth is what the hold of that sum in a sandbox is worth. -/
noncomputable def Tryz.pinned : Pinned := { name := "ytldfmlkjeniemaagreatdoor", sum := "d3285e511aa6873b98e0c74db1744595428d6683be4826952216f92a78b9b4e9", checked := Tryz.checked }
namespace Rows
def none {H : Type} : Left H := { results := [], args := [] }

/- WHAT THE LISTED PACKAGE-LEVEL VARIABLES READ AS WHEN THE CALL BEGINS. Each datum BY PROGRAM (the guide's laid-datum.mjs) off the statement by which the dump's own 'gosem.cut.vars' lays the variable. In a bare row this is a premise. The card (YtldfmlkjeniemaaGreatDoorCards.lean) ties it to the program's text. -/
def laid_lapidary_layout_partNumbers {H : Type} : DataW H := .agg [.lit (.int .i64 0), .lit (.int .i64 0), .lit (.int .i64 0), .lit (.int .i64 0), .lit (.int .i64 1), .lit (.int .i64 1), .lit (.int .i64 2)]

/-- 'lapidarylaw07.ObjectRead': WHATEVER THE INPUT: true; the input reads as it did. -/
def objectReadSpec : ChangeSpec := { name := "objectRead", fn := fun _ => fun
  | [d1, d2] => { results := [.lit (.bool true)], args := [d1, d2] }
  | _ => none }
def objectReadRow : OpenClaim := { program := "ytldfmlkjeniemaagreatdoor", sum := "d3285e511aa6873b98e0c74db1744595428d6683be4826952216f92a78b9b4e9", func := "lapidary/lapidarylaw07.ObjectRead", spec := "objectRead", unfollowed := true, recurses := true, named := ["lapidary/layout.partNumbers"], apart := false, laid := [("lapidary/layout.partNumbers", laid_lapidary_layout_partNumbers)] }
def ObjectReadSaid : Prop := objectReadRow.holds Tryz.pinned (OpenSpec.ofChange objectReadSpec)

/-- ITS FALSE NEIGHBOUR: 'it returns false'. Refute it at one input. -/
def objectReadWrong : ChangeSpec := { name := "objectRead", fn := fun _ => fun
  | [d1, d2] => { results := [.lit (.bool false)], args := [d1, d2] }
  | _ => none }
def ObjectReadWrongFalsely : Prop := objectReadRow.holds Tryz.pinned (OpenSpec.ofChange objectReadWrong)

/-- 'lapidarylaw07.ObjectPut': WHATEVER THE INPUT: true; the input reads as it did. -/
def objectPutSpec : ChangeSpec := { name := "objectPut", fn := fun _ => fun
  | [d1, d2] => { results := [.lit (.bool true)], args := [d1, d2] }
  | _ => none }
def objectPutRow : OpenClaim := { program := "ytldfmlkjeniemaagreatdoor", sum := "d3285e511aa6873b98e0c74db1744595428d6683be4826952216f92a78b9b4e9", func := "lapidary/lapidarylaw07.ObjectPut", spec := "objectPut", unfollowed := true, recurses := true, named := ["lapidary/layout.partNumbers"], apart := false, laid := [("lapidary/layout.partNumbers", laid_lapidary_layout_partNumbers)] }
def ObjectPutSaid : Prop := objectPutRow.holds Tryz.pinned (OpenSpec.ofChange objectPutSpec)

/-- ITS FALSE NEIGHBOUR: 'it returns false'. Refute it at one input. -/
def objectPutWrong : ChangeSpec := { name := "objectPut", fn := fun _ => fun
  | [d1, d2] => { results := [.lit (.bool false)], args := [d1, d2] }
  | _ => none }
def ObjectPutWrongFalsely : Prop := objectPutRow.holds Tryz.pinned (OpenSpec.ofChange objectPutWrong)

/- THE SECOND FORM. 'bulk': how many values and letters a reading holds, each counted each time it is reached (what is shared counts as often as it is met; a slice's spare places count too). A statement '..UptoSaid' is the law's where the arguments, and the package variables that the reading takes, are together of bulk at most 1048576: NARROWER than '..Said'. Prove '..Said' where nothing that the law and all that it calls make is longer than what came in: it says more and counts as full. Else prove '..UptoSaid'. A law counts once. -/
mutual
def uptoBulk {H : Type} : DataW H → Nat
  | .lit (.string bytes) => bytes.length + 1
  | .lit _ => 1
  | .nil => 1
  | .ptr d => uptoBulk d + 1
  | .slice elems spare => uptoBulkAll elems + uptoBulkAll spare + 1
  | .agg parts => uptoBulkAll parts + 1
  | .iface _ d => uptoBulk d + 1
  | .map entries => uptoBulkEntries entries + 1
  | .held _ => 1
def uptoBulkAll {H : Type} : List (DataW H) → Nat
  | [] => 0
  | d :: r => uptoBulk d + uptoBulkAll r
def uptoBulkEntries {H : Type} : List (Lit × DataW H) → Nat
  | [] => 0
  | x :: r => uptoBulkEntry x + uptoBulkEntries r
def uptoBulkEntry {H : Type} : Lit × DataW H → Nat
  | (.string bytes, d) => bytes.length + uptoBulk d + 1
  | (_, d) => uptoBulk d + 1
 end
def uptoSmall : (H : Type) → List (DataW H) → Bool := fun _ ds => decide (uptoBulkAll ds ≤ 1048576)
def OpenSpec.upto (s : _root_.Go.ChangeSpec) : _root_.Go.OpenSpec := { _root_.Go.OpenSpec.ofChange s with cond := some uptoSmall }

/-- 'lapidarylaw07.ObjectRead', WHERE WHAT IT READS IS OF BULK AT MOST 1048576: true; the input reads as it did. -/
def objectReadUptoRow : OpenClaim := { program := "ytldfmlkjeniemaagreatdoor", sum := "d3285e511aa6873b98e0c74db1744595428d6683be4826952216f92a78b9b4e9", func := "lapidary/lapidarylaw07.ObjectRead", spec := "objectRead", unfollowed := true, recurses := true, named := ["lapidary/layout.partNumbers"], apart := false, laid := [("lapidary/layout.partNumbers", laid_lapidary_layout_partNumbers)], narrowed := true }
def ObjectReadUptoSaid : Prop := objectReadUptoRow.holds Tryz.pinned (OpenSpec.upto objectReadSpec)

/-- 'lapidarylaw07.ObjectPut', WHERE WHAT IT READS IS OF BULK AT MOST 1048576: true; the input reads as it did. -/
def objectPutUptoRow : OpenClaim := { program := "ytldfmlkjeniemaagreatdoor", sum := "d3285e511aa6873b98e0c74db1744595428d6683be4826952216f92a78b9b4e9", func := "lapidary/lapidarylaw07.ObjectPut", spec := "objectPut", unfollowed := true, recurses := true, named := ["lapidary/layout.partNumbers"], apart := false, laid := [("lapidary/layout.partNumbers", laid_lapidary_layout_partNumbers)], narrowed := true }
def ObjectPutUptoSaid : Prop := objectPutUptoRow.holds Tryz.pinned (OpenSpec.upto objectPutSpec)

end Rows
end Go.Proofs.YtldfmlkjeniemaaGreatDoor
