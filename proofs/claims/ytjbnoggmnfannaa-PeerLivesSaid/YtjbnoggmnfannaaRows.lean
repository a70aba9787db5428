/-
  No cell of these rows narrows 'for every input' (looked for: loops, veiled, ifaces, maps, wideKeys, modest, calm, conditions, laid).
  DERIVED. THE GIVEN ROWS OF THIS SEAT. 4 by the template 'for every input the law returns true; each argument reads behind the call as it read before'; 0 by the template 'total and deterministic' (their statements: YtjbnoggmnfannaaTotals.lean).
  GIVEN WITH THE SEED: the statements are not yours to turn. If you find one false, say at which input.
  Laid BY PROGRAM, IN A SANDBOX (cutbox-rows.mjs): the forced cells as the released guide's own fill.sh prints them over the translation 1556c976b428ad0d… (all of the seat's roots in one cut). By AI agents, Wed Nov 11 2026. No macro, syntax, notation, axiom, sorry.
-/
import Derived.Test.YtjbnoggmnfannaaChecked
import GoSem.Claim
import GoSem.ClaimJoined
import GoSem.ClaimMapViews
import Derived.JoinedTies
import Derived.KernelRfl
namespace Go.Proofs.Ytjbnoggmnfannaa
/- THE CELL 'sum', in the pinned program and in every row, IS THE sha256 OF THE DUMP (.gsa) THAT YtjbnoggmnfannaaProg.lean LOADS. Nothing in Lean hashes anything: it is a label: what it is worth is what the hold of that sum in a sandbox is worth. -/
noncomputable def Try.pinned : Pinned := { name := "ytjbnoggmnfannaa", sum := "1556c976b428ad0dbc88c461010c2cac77ea33028508c9c7f01a199f74223aff", checked := Try.checked }
namespace Rows
def none {H : Type} : Left H := { results := [], args := [] }

/-- 'longlinelaw11.PeerLives': WHATEVER THE INPUT: true; the input reads as it did. -/
def peerLivesSpec : ChangeSpec := { name := "peerLives", fn := fun _ => fun
  | [d1, d2] => { results := [.lit (.bool true)], args := [d1, d2] }
  | _ => none }
def peerLivesRow : OpenClaim := { program := "ytjbnoggmnfannaa", sum := "1556c976b428ad0dbc88c461010c2cac77ea33028508c9c7f01a199f74223aff", func := "longline/longlinelaw11.PeerLives", spec := "peerLives", apart := false }
def PeerLivesSaid : Prop := peerLivesRow.holds Try.pinned (OpenSpec.ofChange peerLivesSpec)

/-- ITS FALSE NEIGHBOUR: 'it returns false'. Refute it at one input. -/
def peerLivesWrong : ChangeSpec := { name := "peerLives", fn := fun _ => fun
  | [d1, d2] => { results := [.lit (.bool false)], args := [d1, d2] }
  | _ => none }
def PeerLivesWrongFalsely : Prop := peerLivesRow.holds Try.pinned (OpenSpec.ofChange peerLivesWrong)

/-- 'longlinelaw11.PeerOnce': WHATEVER THE INPUT: true; the input reads as it did. -/
def peerOnceSpec : ChangeSpec := { name := "peerOnce", fn := fun _ => fun
  | [d] => { results := [.lit (.bool true)], args := [d] }
  | _ => none }
def peerOnceRow : OpenClaim := { program := "ytjbnoggmnfannaa", sum := "1556c976b428ad0dbc88c461010c2cac77ea33028508c9c7f01a199f74223aff", func := "longline/longlinelaw11.PeerOnce", spec := "peerOnce", apart := false }
def PeerOnceSaid : Prop := peerOnceRow.holds Try.pinned (OpenSpec.ofChange peerOnceSpec)

/-- ITS FALSE NEIGHBOUR: 'it returns false'. Refute it at one input. -/
def peerOnceWrong : ChangeSpec := { name := "peerOnce", fn := fun _ => fun
  | [d] => { results := [.lit (.bool false)], args := [d] }
  | _ => none }
def PeerOnceWrongFalsely : Prop := peerOnceRow.holds Try.pinned (OpenSpec.ofChange peerOnceWrong)

/-- 'longlinelaw11.PeerNewest': WHATEVER THE INPUT: true; the input reads as it did. -/
def peerNewestSpec : ChangeSpec := { name := "peerNewest", fn := fun _ => fun
  | [d] => { results := [.lit (.bool true)], args := [d] }
  | _ => none }
def peerNewestRow : OpenClaim := { program := "ytjbnoggmnfannaa", sum := "1556c976b428ad0dbc88c461010c2cac77ea33028508c9c7f01a199f74223aff", func := "longline/longlinelaw11.PeerNewest", spec := "peerNewest", apart := false }
def PeerNewestSaid : Prop := peerNewestRow.holds Try.pinned (OpenSpec.ofChange peerNewestSpec)

/-- ITS FALSE NEIGHBOUR: 'it returns false'. Refute it at one input. -/
def peerNewestWrong : ChangeSpec := { name := "peerNewest", fn := fun _ => fun
  | [d] => { results := [.lit (.bool false)], args := [d] }
  | _ => none }
def PeerNewestWrongFalsely : Prop := peerNewestRow.holds Try.pinned (OpenSpec.ofChange peerNewestWrong)

/-- 'longlinelaw11.PeerWindow': WHATEVER THE INPUT: true; the input reads as it did. -/
def peerWindowSpec : ChangeSpec := { name := "peerWindow", fn := fun _ => fun
  | [d1, d2] => { results := [.lit (.bool true)], args := [d1, d2] }
  | _ => none }
def peerWindowRow : OpenClaim := { program := "ytjbnoggmnfannaa", sum := "1556c976b428ad0dbc88c461010c2cac77ea33028508c9c7f01a199f74223aff", func := "longline/longlinelaw11.PeerWindow", spec := "peerWindow", apart := false }
def PeerWindowSaid : Prop := peerWindowRow.holds Try.pinned (OpenSpec.ofChange peerWindowSpec)

/-- ITS FALSE NEIGHBOUR: 'it returns false'. Refute it at one input. -/
def peerWindowWrong : ChangeSpec := { name := "peerWindow", fn := fun _ => fun
  | [d1, d2] => { results := [.lit (.bool false)], args := [d1, d2] }
  | _ => none }
def PeerWindowWrongFalsely : Prop := peerWindowRow.holds Try.pinned (OpenSpec.ofChange peerWindowWrong)

/- THE SECOND FORM. 'bulk': how many values and letters a reading holds, each counted each time it is reached (what is shared counts as often as it is met; a slice's spare places count too). A statement '..UptoSaid' is the law's where the arguments, and the package variables that the reading takes, are together of bulk at most 1048576: NARROWER than '..Said'. Prove '..Said' where nothing that the law and all that it calls make is longer than what came in: it says more and counts as full. Else prove '..UptoSaid'. A law counts once. -/
mutual
def uptoBulk {H : Type} : DataW H → Nat
  | .lit (.string bytes) => bytes.length + 1
  | .lit _ => 1
  | .nil => 1
  | .ptr d => uptoBulk d + 1
  | .slice elems spare => uptoBulkAll elems + uptoBulkAll spare + 1
  | .agg parts => uptoBulkAll parts + 1
  | .iface _ d => uptoBulk d + 1
  | .map entries => uptoBulkEntries entries + 1
  | .held _ => 1
def uptoBulkAll {H : Type} : List (DataW H) → Nat
  | [] => 0
  | d :: r => uptoBulk d + uptoBulkAll r
def uptoBulkEntries {H : Type} : List (Lit × DataW H) → Nat
  | [] => 0
  | x :: r => uptoBulkEntry x + uptoBulkEntries r
def uptoBulkEntry {H : Type} : Lit × DataW H → Nat
  | (.string bytes, d) => bytes.length + uptoBulk d + 1
  | (_, d) => uptoBulk d + 1
 end
def uptoSmall : (H : Type) → List (DataW H) → Bool := fun _ ds => decide (uptoBulkAll ds ≤ 1048576)
def OpenSpec.upto (s : _root_.Go.ChangeSpec) : _root_.Go.OpenSpec := { _root_.Go.OpenSpec.ofChange s with cond := some uptoSmall }

/-- 'longlinelaw11.PeerLives', WHERE WHAT IT READS IS OF BULK AT MOST 1048576: true; the input reads as it did. -/
def peerLivesUptoRow : OpenClaim := { program := "ytjbnoggmnfannaa", sum := "1556c976b428ad0dbc88c461010c2cac77ea33028508c9c7f01a199f74223aff", func := "longline/longlinelaw11.PeerLives", spec := "peerLives", apart := false, narrowed := true }
def PeerLivesUptoSaid : Prop := peerLivesUptoRow.holds Try.pinned (OpenSpec.upto peerLivesSpec)

/-- 'longlinelaw11.PeerOnce', WHERE WHAT IT READS IS OF BULK AT MOST 1048576: true; the input reads as it did. -/
def peerOnceUptoRow : OpenClaim := { program := "ytjbnoggmnfannaa", sum := "1556c976b428ad0dbc88c461010c2cac77ea33028508c9c7f01a199f74223aff", func := "longline/longlinelaw11.PeerOnce", spec := "peerOnce", apart := false, narrowed := true }
def PeerOnceUptoSaid : Prop := peerOnceUptoRow.holds Try.pinned (OpenSpec.upto peerOnceSpec)

/-- 'longlinelaw11.PeerNewest', WHERE WHAT IT READS IS OF BULK AT MOST 1048576: true; the input reads as it did. -/
def peerNewestUptoRow : OpenClaim := { program := "ytjbnoggmnfannaa", sum := "1556c976b428ad0dbc88c461010c2cac77ea33028508c9c7f01a199f74223aff", func := "longline/longlinelaw11.PeerNewest", spec := "peerNewest", apart := false, narrowed := true }
def PeerNewestUptoSaid : Prop := peerNewestUptoRow.holds Try.pinned (OpenSpec.upto peerNewestSpec)

/-- 'longlinelaw11.PeerWindow', WHERE WHAT IT READS IS OF BULK AT MOST 1048576: true; the input reads as it did. -/
def peerWindowUptoRow : OpenClaim := { program := "ytjbnoggmnfannaa", sum := "1556c976b428ad0dbc88c461010c2cac77ea33028508c9c7f01a199f74223aff", func := "longline/longlinelaw11.PeerWindow", spec := "peerWindow", apart := false, narrowed := true }
def PeerWindowUptoSaid : Prop := peerWindowUptoRow.holds Try.pinned (OpenSpec.upto peerWindowSpec)

end Rows
end Go.Proofs.Ytjbnoggmnfannaa
