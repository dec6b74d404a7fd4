/-
  NARROWER THAN 'FOR EVERY INPUT', by the rows' own cells (each row's printed sentence says how): ObjectPlace: laid · ObjectWalk: laid · ObjectApart: laid · ObjectNil: laid.
  DERIVED. THE GIVEN ROWS OF THIS SEAT. 4 by the template 'for every input the law returns true; each argument reads behind the call as it read before'; 0 by the template 'total and deterministic' (their statements: YtldfmlkjeniemaaDoorTotals.lean).
  GIVEN WITH THE SEED: the statements are not yours to turn. If you find one false, say at which input.
  Laid BY PROGRAM, IN A SANDBOX (cutbox-rows.mjs): the forced cells as the released guide's own fill.sh prints them over the translation 95a490bfd555ddf2… (all of the seat's roots in one cut). By AI agents, Wed Nov 11 2026. No macro, syntax, notation, axiom, sorry.
-/
import Derived.Test.YtldfmlkjeniemaaDoorChecked
import GoSem.Claim
import GoSem.ClaimJoined
import GoSem.ClaimMapViews
import Derived.JoinedTies
import Derived.KernelRfl
namespace Go.Proofs.YtldfmlkjeniemaaDoor
/- THE CELL 'sum', in the pinned program and in every row, IS THE sha256 OF THE DUMP (.gsa) THAT YtldfmlkjeniemaaDoorProg.lean LOADS. Nothing in Lean hashes anything: it is a label: what it is worth is what the hold of that sum in a sandbox is worth. -/
noncomputable def Tryd.pinned : Pinned := { name := "ytldfmlkjeniemaadoor", sum := "95a490bfd555ddf272e3a3fae3bdf865962b7bbc16a7e483e081351c47602f61", checked := Tryd.checked }
namespace Rows
def none {H : Type} : Left H := { results := [], args := [] }

/- WHAT THE LISTED PACKAGE-LEVEL VARIABLES READ AS WHEN THE CALL BEGINS. Each datum BY PROGRAM (the guide's laid-datum.mjs) off the statement by which the dump's own 'gosem.cut.vars' lays the variable. In a bare row this is a premise. The card (YtldfmlkjeniemaaDoorCards.lean) ties it to the program's text. -/
def laid_lapidary_layout_partNumbers {H : Type} : DataW H := .agg [.lit (.int .i64 0), .lit (.int .i64 0), .lit (.int .i64 0), .lit (.int .i64 0), .lit (.int .i64 1), .lit (.int .i64 1), .lit (.int .i64 2)]

/-- 'lapidarylaw07.ObjectPlace': WHATEVER THE INPUT: true; the input reads as it did. -/
def objectPlaceSpec : ChangeSpec := { name := "objectPlace", fn := fun _ => fun
  | [d1, d2, d3] => { results := [.lit (.bool true)], args := [d1, d2, d3] }
  | _ => none }
def objectPlaceRow : OpenClaim := { program := "ytldfmlkjeniemaadoor", sum := "95a490bfd555ddf272e3a3fae3bdf865962b7bbc16a7e483e081351c47602f61", func := "lapidary/lapidarylaw07.ObjectPlace", spec := "objectPlace", unfollowed := true, recurses := true, named := ["lapidary/layout.partNumbers"], apart := false, laid := [("lapidary/layout.partNumbers", laid_lapidary_layout_partNumbers)] }
def ObjectPlaceSaid : Prop := objectPlaceRow.holds Tryd.pinned (OpenSpec.ofChange objectPlaceSpec)

/-- ITS FALSE NEIGHBOUR: 'it returns false'. Refute it at one input. -/
def objectPlaceWrong : ChangeSpec := { name := "objectPlace", fn := fun _ => fun
  | [d1, d2, d3] => { results := [.lit (.bool false)], args := [d1, d2, d3] }
  | _ => none }
def ObjectPlaceWrongFalsely : Prop := objectPlaceRow.holds Tryd.pinned (OpenSpec.ofChange objectPlaceWrong)

/-- 'lapidarylaw07.ObjectWalk': WHATEVER THE INPUT: true; the input reads as it did. -/
def objectWalkSpec : ChangeSpec := { name := "objectWalk", fn := fun _ => fun
  | [d1, d2, d3, d4] => { results := [.lit (.bool true)], args := [d1, d2, d3, d4] }
  | _ => none }
def objectWalkRow : OpenClaim := { program := "ytldfmlkjeniemaadoor", sum := "95a490bfd555ddf272e3a3fae3bdf865962b7bbc16a7e483e081351c47602f61", func := "lapidary/lapidarylaw07.ObjectWalk", spec := "objectWalk", unfollowed := true, recurses := true, named := ["lapidary/layout.partNumbers"], apart := false, laid := [("lapidary/layout.partNumbers", laid_lapidary_layout_partNumbers)] }
def ObjectWalkSaid : Prop := objectWalkRow.holds Tryd.pinned (OpenSpec.ofChange objectWalkSpec)

/-- ITS FALSE NEIGHBOUR: 'it returns false'. Refute it at one input. -/
def objectWalkWrong : ChangeSpec := { name := "objectWalk", fn := fun _ => fun
  | [d1, d2, d3, d4] => { results := [.lit (.bool false)], args := [d1, d2, d3, d4] }
  | _ => none }
def ObjectWalkWrongFalsely : Prop := objectWalkRow.holds Tryd.pinned (OpenSpec.ofChange objectWalkWrong)

/-- 'lapidarylaw07.ObjectApart': WHATEVER THE INPUT: true; the input reads as it did. -/
def objectApartSpec : ChangeSpec := { name := "objectApart", fn := fun _ => fun
  | [d1, d2, d3] => { results := [.lit (.bool true)], args := [d1, d2, d3] }
  | _ => none }
def objectApartRow : OpenClaim := { program := "ytldfmlkjeniemaadoor", sum := "95a490bfd555ddf272e3a3fae3bdf865962b7bbc16a7e483e081351c47602f61", func := "lapidary/lapidarylaw07.ObjectApart", spec := "objectApart", unfollowed := true, recurses := true, named := ["lapidary/layout.partNumbers"], apart := false, laid := [("lapidary/layout.partNumbers", laid_lapidary_layout_partNumbers)] }
def ObjectApartSaid : Prop := objectApartRow.holds Tryd.pinned (OpenSpec.ofChange objectApartSpec)

/-- ITS FALSE NEIGHBOUR: 'it returns false'. Refute it at one input. -/
def objectApartWrong : ChangeSpec := { name := "objectApart", fn := fun _ => fun
  | [d1, d2, d3] => { results := [.lit (.bool false)], args := [d1, d2, d3] }
  | _ => none }
def ObjectApartWrongFalsely : Prop := objectApartRow.holds Tryd.pinned (OpenSpec.ofChange objectApartWrong)

/-- 'lapidarylaw07.ObjectNil': WHATEVER THE INPUT: true; the input reads as it did. -/
def objectNilSpec : ChangeSpec := { name := "objectNil", fn := fun _ => fun
  | [d1, d2] => { results := [.lit (.bool true)], args := [d1, d2] }
  | _ => none }
def objectNilRow : OpenClaim := { program := "ytldfmlkjeniemaadoor", sum := "95a490bfd555ddf272e3a3fae3bdf865962b7bbc16a7e483e081351c47602f61", func := "lapidary/lapidarylaw07.ObjectNil", spec := "objectNil", unfollowed := true, recurses := true, named := ["lapidary/layout.partNumbers"], apart := false, laid := [("lapidary/layout.partNumbers", laid_lapidary_layout_partNumbers)] }
def ObjectNilSaid : Prop := objectNilRow.holds Tryd.pinned (OpenSpec.ofChange objectNilSpec)

/-- ITS FALSE NEIGHBOUR: 'it returns false'. Refute it at one input. -/
def objectNilWrong : ChangeSpec := { name := "objectNil", fn := fun _ => fun
  | [d1, d2] => { results := [.lit (.bool false)], args := [d1, d2] }
  | _ => none }
def ObjectNilWrongFalsely : Prop := objectNilRow.holds Tryd.pinned (OpenSpec.ofChange objectNilWrong)

/- THE SECOND FORM. 'bulk': how many values and letters a reading holds, each counted each time it is reached (what is shared counts as often as it is met; a slice's spare places count too). A statement '..UptoSaid' is the law's where the arguments, and the package variables that the reading takes, are together of bulk at most 1048576: NARROWER than '..Said'. Prove '..Said' where nothing that the law and all that it calls make is longer than what came in: it says more and counts as full. Else prove '..UptoSaid'. A law counts once. -/
mutual
def uptoBulk {H : Type} : DataW H → Nat
  | .lit (.string bytes) => bytes.length + 1
  | .lit _ => 1
  | .nil => 1
  | .ptr d => uptoBulk d + 1
  | .slice elems spare => uptoBulkAll elems + uptoBulkAll spare + 1
  | .agg parts => uptoBulkAll parts + 1
  | .iface _ d => uptoBulk d + 1
  | .map entries => uptoBulkEntries entries + 1
  | .held _ => 1
def uptoBulkAll {H : Type} : List (DataW H) → Nat
  | [] => 0
  | d :: r => uptoBulk d + uptoBulkAll r
def uptoBulkEntries {H : Type} : List (Lit × DataW H) → Nat
  | [] => 0
  | x :: r => uptoBulkEntry x + uptoBulkEntries r
def uptoBulkEntry {H : Type} : Lit × DataW H → Nat
  | (.string bytes, d) => bytes.length + uptoBulk d + 1
  | (_, d) => uptoBulk d + 1
 end
def uptoSmall : (H : Type) → List (DataW H) → Bool := fun _ ds => decide (uptoBulkAll ds ≤ 1048576)
def OpenSpec.upto (s : _root_.Go.ChangeSpec) : _root_.Go.OpenSpec := { _root_.Go.OpenSpec.ofChange s with cond := some uptoSmall }

/-- 'lapidarylaw07.ObjectPlace', WHERE WHAT IT READS IS OF BULK AT MOST 1048576: true; the input reads as it did. -/
def objectPlaceUptoRow : OpenClaim := { program := "ytldfmlkjeniemaadoor", sum := "95a490bfd555ddf272e3a3fae3bdf865962b7bbc16a7e483e081351c47602f61", func := "lapidary/lapidarylaw07.ObjectPlace", spec := "objectPlace", unfollowed := true, recurses := true, named := ["lapidary/layout.partNumbers"], apart := false, laid := [("lapidary/layout.partNumbers", laid_lapidary_layout_partNumbers)], narrowed := true }
def ObjectPlaceUptoSaid : Prop := objectPlaceUptoRow.holds Tryd.pinned (OpenSpec.upto objectPlaceSpec)

/-- 'lapidarylaw07.ObjectWalk', WHERE WHAT IT READS IS OF BULK AT MOST 1048576: true; the input reads as it did. -/
def objectWalkUptoRow : OpenClaim := { program := "ytldfmlkjeniemaadoor", sum := "95a490bfd555ddf272e3a3fae3bdf865962b7bbc16a7e483e081351c47602f61", func := "lapidary/lapidarylaw07.ObjectWalk", spec := "objectWalk", unfollowed := true, recurses := true, named := ["lapidary/layout.partNumbers"], apart := false, laid := [("lapidary/layout.partNumbers", laid_lapidary_layout_partNumbers)], narrowed := true }
def ObjectWalkUptoSaid : Prop := objectWalkUptoRow.holds Tryd.pinned (OpenSpec.upto objectWalkSpec)

/-- 'lapidarylaw07.ObjectApart', WHERE WHAT IT READS IS OF BULK AT MOST 1048576: true; the input reads as it did. -/
def objectApartUptoRow : OpenClaim := { program := "ytldfmlkjeniemaadoor", sum := "95a490bfd555ddf272e3a3fae3bdf865962b7bbc16a7e483e081351c47602f61", func := "lapidary/lapidarylaw07.ObjectApart", spec := "objectApart", unfollowed := true, recurses := true, named := ["lapidary/layout.partNumbers"], apart := false, laid := [("lapidary/layout.partNumbers", laid_lapidary_layout_partNumbers)], narrowed := true }
def ObjectApartUptoSaid : Prop := objectApartUptoRow.holds Tryd.pinned (OpenSpec.upto objectApartSpec)

/-- 'lapidarylaw07.ObjectNil', WHERE WHAT IT READS IS OF BULK AT MOST 1048576: true; the input reads as it did. -/
def objectNilUptoRow : OpenClaim := { program := "ytldfmlkjeniemaadoor", sum := "95a490bfd555ddf272e3a3fae3bdf865962b7bbc16a7e483e081351c47602f61", func := "lapidary/lapidarylaw07.ObjectNil", spec := "objectNil", unfollowed := true, recurses := true, named := ["lapidary/layout.partNumbers"], apart := false, laid := [("lapidary/layout.partNumbers", laid_lapidary_layout_partNumbers)], narrowed := true }
def ObjectNilUptoSaid : Prop := objectNilUptoRow.holds Tryd.pinned (OpenSpec.upto objectNilSpec)

end Rows
end Go.Proofs.YtldfmlkjeniemaaDoor
