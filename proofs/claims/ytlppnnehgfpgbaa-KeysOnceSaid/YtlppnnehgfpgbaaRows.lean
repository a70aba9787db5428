/-
  No cell of these rows narrows 'for every input' (looked for: loops, veiled, ifaces, maps, wideKeys, modest, calm, conditions, laid).
  DERIVED. THE GIVEN ROWS OF THIS SEAT. 7 by the template 'for every input the law returns true; each argument reads behind the call as it read before'; 0 by the template 'total and deterministic' (their statements: YtlppnnehgfpgbaaTotals.lean).
  GIVEN WITH THE SEED: the statements are not yours to turn. If you find one false, say at which input.
  Laid BY PROGRAM, IN A SANDBOX (cutbox-rows.mjs): the forced cells as the released guide's own fill.sh prints them over the translation 19f8d620401c63bc… (all of the seat's roots in one cut). By AI agents, Wed Nov 11 2026. No macro, syntax, notation, axiom, sorry.
-/
import Derived.Test.YtlppnnehgfpgbaaChecked
import GoSem.Claim
import GoSem.ClaimJoined
import GoSem.ClaimMapViews
import Derived.JoinedTies
import Derived.KernelRfl
namespace Go.Proofs.Ytlppnnehgfpgbaa
/- THE CELL 'sum', in the pinned program and in every row, IS THE sha256 OF THE DUMP (.gsa) THAT YtlppnnehgfpgbaaProg.lean LOADS. Nothing in Lean hashes anything: it is a label: what it is worth is what the hold of that sum in a sandbox is worth. -/
noncomputable def Try.pinned : Pinned := { name := "ytlppnnehgfpgbaa", sum := "19f8d620401c63bc112aa4f13e2380dad37bf8daa76a046958606dc7a8c31af0", checked := Try.checked }
namespace Rows
def none {H : Type} : Left H := { results := [], args := [] }

/-- 'longlinelaw23.KeysLive': WHATEVER THE INPUT: true; the input reads as it did. -/
def keysLiveSpec : ChangeSpec := { name := "keysLive", fn := fun _ => fun
  | [d] => { results := [.lit (.bool true)], args := [d] }
  | _ => none }
def keysLiveRow : OpenClaim := { program := "ytlppnnehgfpgbaa", sum := "19f8d620401c63bc112aa4f13e2380dad37bf8daa76a046958606dc7a8c31af0", func := "longline/longlinelaw23.KeysLive", spec := "keysLive", apart := false }
def KeysLiveSaid : Prop := keysLiveRow.holds Try.pinned (OpenSpec.ofChange keysLiveSpec)

/-- ITS FALSE NEIGHBOUR: 'it returns false'. Refute it at one input. -/
def keysLiveWrong : ChangeSpec := { name := "keysLive", fn := fun _ => fun
  | [d] => { results := [.lit (.bool false)], args := [d] }
  | _ => none }
def KeysLiveWrongFalsely : Prop := keysLiveRow.holds Try.pinned (OpenSpec.ofChange keysLiveWrong)

/-- 'longlinelaw23.KeysOnce': WHATEVER THE INPUT: true; the input reads as it did. -/
def keysOnceSpec : ChangeSpec := { name := "keysOnce", fn := fun _ => fun
  | [d] => { results := [.lit (.bool true)], args := [d] }
  | _ => none }
def keysOnceRow : OpenClaim := { program := "ytlppnnehgfpgbaa", sum := "19f8d620401c63bc112aa4f13e2380dad37bf8daa76a046958606dc7a8c31af0", func := "longline/longlinelaw23.KeysOnce", spec := "keysOnce", apart := false }
def KeysOnceSaid : Prop := keysOnceRow.holds Try.pinned (OpenSpec.ofChange keysOnceSpec)

/-- ITS FALSE NEIGHBOUR: 'it returns false'. Refute it at one input. -/
def keysOnceWrong : ChangeSpec := { name := "keysOnce", fn := fun _ => fun
  | [d] => { results := [.lit (.bool false)], args := [d] }
  | _ => none }
def KeysOnceWrongFalsely : Prop := keysOnceRow.holds Try.pinned (OpenSpec.ofChange keysOnceWrong)

/-- 'longlinelaw23.KeysBound': WHATEVER THE INPUT: true; the input reads as it did. -/
def keysBoundSpec : ChangeSpec := { name := "keysBound", fn := fun _ => fun
  | [d] => { results := [.lit (.bool true)], args := [d] }
  | _ => none }
def keysBoundRow : OpenClaim := { program := "ytlppnnehgfpgbaa", sum := "19f8d620401c63bc112aa4f13e2380dad37bf8daa76a046958606dc7a8c31af0", func := "longline/longlinelaw23.KeysBound", spec := "keysBound", apart := false }
def KeysBoundSaid : Prop := keysBoundRow.holds Try.pinned (OpenSpec.ofChange keysBoundSpec)

/-- ITS FALSE NEIGHBOUR: 'it returns false'. Refute it at one input. -/
def keysBoundWrong : ChangeSpec := { name := "keysBound", fn := fun _ => fun
  | [d] => { results := [.lit (.bool false)], args := [d] }
  | _ => none }
def KeysBoundWrongFalsely : Prop := keysBoundRow.holds Try.pinned (OpenSpec.ofChange keysBoundWrong)

/-- 'longlinelaw24.BitmapTells': WHATEVER THE INPUT: true; the input reads as it did. -/
def bitmapTellsSpec : ChangeSpec := { name := "bitmapTells", fn := fun _ => fun
  | [d1, d2, d3] => { results := [.lit (.bool true)], args := [d1, d2, d3] }
  | _ => none }
def bitmapTellsRow : OpenClaim := { program := "ytlppnnehgfpgbaa", sum := "19f8d620401c63bc112aa4f13e2380dad37bf8daa76a046958606dc7a8c31af0", func := "longline/longlinelaw24.BitmapTells", spec := "bitmapTells", apart := false }
def BitmapTellsSaid : Prop := bitmapTellsRow.holds Try.pinned (OpenSpec.ofChange bitmapTellsSpec)

/-- ITS FALSE NEIGHBOUR: 'it returns false'. Refute it at one input. -/
def bitmapTellsWrong : ChangeSpec := { name := "bitmapTells", fn := fun _ => fun
  | [d1, d2, d3] => { results := [.lit (.bool false)], args := [d1, d2, d3] }
  | _ => none }
def BitmapTellsWrongFalsely : Prop := bitmapTellsRow.holds Try.pinned (OpenSpec.ofChange bitmapTellsWrong)

/-- 'longlinelaw24.BitmapBytes': WHATEVER THE INPUT: true; the input reads as it did. -/
def bitmapBytesSpec : ChangeSpec := { name := "bitmapBytes", fn := fun _ => fun
  | [d1, d2] => { results := [.lit (.bool true)], args := [d1, d2] }
  | _ => none }
def bitmapBytesRow : OpenClaim := { program := "ytlppnnehgfpgbaa", sum := "19f8d620401c63bc112aa4f13e2380dad37bf8daa76a046958606dc7a8c31af0", func := "longline/longlinelaw24.BitmapBytes", spec := "bitmapBytes", apart := false }
def BitmapBytesSaid : Prop := bitmapBytesRow.holds Try.pinned (OpenSpec.ofChange bitmapBytesSpec)

/-- ITS FALSE NEIGHBOUR: 'it returns false'. Refute it at one input. -/
def bitmapBytesWrong : ChangeSpec := { name := "bitmapBytes", fn := fun _ => fun
  | [d1, d2] => { results := [.lit (.bool false)], args := [d1, d2] }
  | _ => none }
def BitmapBytesWrongFalsely : Prop := bitmapBytesRow.holds Try.pinned (OpenSpec.ofChange bitmapBytesWrong)

/-- 'longlinelaw24.BitmapFills': WHATEVER THE INPUT: true; the input reads as it did. -/
def bitmapFillsSpec : ChangeSpec := { name := "bitmapFills", fn := fun _ => fun
  | [d1, d2] => { results := [.lit (.bool true)], args := [d1, d2] }
  | _ => none }
def bitmapFillsRow : OpenClaim := { program := "ytlppnnehgfpgbaa", sum := "19f8d620401c63bc112aa4f13e2380dad37bf8daa76a046958606dc7a8c31af0", func := "longline/longlinelaw24.BitmapFills", spec := "bitmapFills", apart := false }
def BitmapFillsSaid : Prop := bitmapFillsRow.holds Try.pinned (OpenSpec.ofChange bitmapFillsSpec)

/-- ITS FALSE NEIGHBOUR: 'it returns false'. Refute it at one input. -/
def bitmapFillsWrong : ChangeSpec := { name := "bitmapFills", fn := fun _ => fun
  | [d1, d2] => { results := [.lit (.bool false)], args := [d1, d2] }
  | _ => none }
def BitmapFillsWrongFalsely : Prop := bitmapFillsRow.holds Try.pinned (OpenSpec.ofChange bitmapFillsWrong)

/-- 'longlinelaw24.BitmapOrs': WHATEVER THE INPUT: true; the input reads as it did. -/
def bitmapOrsSpec : ChangeSpec := { name := "bitmapOrs", fn := fun _ => fun
  | [d1, d2, d3] => { results := [.lit (.bool true)], args := [d1, d2, d3] }
  | _ => none }
def bitmapOrsRow : OpenClaim := { program := "ytlppnnehgfpgbaa", sum := "19f8d620401c63bc112aa4f13e2380dad37bf8daa76a046958606dc7a8c31af0", func := "longline/longlinelaw24.BitmapOrs", spec := "bitmapOrs", apart := false }
def BitmapOrsSaid : Prop := bitmapOrsRow.holds Try.pinned (OpenSpec.ofChange bitmapOrsSpec)

/-- ITS FALSE NEIGHBOUR: 'it returns false'. Refute it at one input. -/
def bitmapOrsWrong : ChangeSpec := { name := "bitmapOrs", fn := fun _ => fun
  | [d1, d2, d3] => { results := [.lit (.bool false)], args := [d1, d2, d3] }
  | _ => none }
def BitmapOrsWrongFalsely : Prop := bitmapOrsRow.holds Try.pinned (OpenSpec.ofChange bitmapOrsWrong)

/- THE SECOND FORM. 'bulk': how many values and letters a reading holds, each counted each time it is reached (what is shared counts as often as it is met; a slice's spare places count too). A statement '..UptoSaid' is the law's where the arguments, and the package variables that the reading takes, are together of bulk at most 1048576: NARROWER than '..Said'. Prove '..Said' where nothing that the law and all that it calls make is longer than what came in: it says more and counts as full. Else prove '..UptoSaid'. A law counts once. -/
mutual
def uptoBulk {H : Type} : DataW H → Nat
  | .lit (.string bytes) => bytes.length + 1
  | .lit _ => 1
  | .nil => 1
  | .ptr d => uptoBulk d + 1
  | .slice elems spare => uptoBulkAll elems + uptoBulkAll spare + 1
  | .agg parts => uptoBulkAll parts + 1
  | .iface _ d => uptoBulk d + 1
  | .map entries => uptoBulkEntries entries + 1
  | .held _ => 1
def uptoBulkAll {H : Type} : List (DataW H) → Nat
  | [] => 0
  | d :: r => uptoBulk d + uptoBulkAll r
def uptoBulkEntries {H : Type} : List (Lit × DataW H) → Nat
  | [] => 0
  | x :: r => uptoBulkEntry x + uptoBulkEntries r
def uptoBulkEntry {H : Type} : Lit × DataW H → Nat
  | (.string bytes, d) => bytes.length + uptoBulk d + 1
  | (_, d) => uptoBulk d + 1
 end
def uptoSmall : (H : Type) → List (DataW H) → Bool := fun _ ds => decide (uptoBulkAll ds ≤ 1048576)
def OpenSpec.upto (s : _root_.Go.ChangeSpec) : _root_.Go.OpenSpec := { _root_.Go.OpenSpec.ofChange s with cond := some uptoSmall }

/-- 'longlinelaw23.KeysLive', WHERE WHAT IT READS IS OF BULK AT MOST 1048576: true; the input reads as it did. -/
def keysLiveUptoRow : OpenClaim := { program := "ytlppnnehgfpgbaa", sum := "19f8d620401c63bc112aa4f13e2380dad37bf8daa76a046958606dc7a8c31af0", func := "longline/longlinelaw23.KeysLive", spec := "keysLive", apart := false, narrowed := true }
def KeysLiveUptoSaid : Prop := keysLiveUptoRow.holds Try.pinned (OpenSpec.upto keysLiveSpec)

/-- 'longlinelaw23.KeysOnce', WHERE WHAT IT READS IS OF BULK AT MOST 1048576: true; the input reads as it did. -/
def keysOnceUptoRow : OpenClaim := { program := "ytlppnnehgfpgbaa", sum := "19f8d620401c63bc112aa4f13e2380dad37bf8daa76a046958606dc7a8c31af0", func := "longline/longlinelaw23.KeysOnce", spec := "keysOnce", apart := false, narrowed := true }
def KeysOnceUptoSaid : Prop := keysOnceUptoRow.holds Try.pinned (OpenSpec.upto keysOnceSpec)

/-- 'longlinelaw23.KeysBound', WHERE WHAT IT READS IS OF BULK AT MOST 1048576: true; the input reads as it did. -/
def keysBoundUptoRow : OpenClaim := { program := "ytlppnnehgfpgbaa", sum := "19f8d620401c63bc112aa4f13e2380dad37bf8daa76a046958606dc7a8c31af0", func := "longline/longlinelaw23.KeysBound", spec := "keysBound", apart := false, narrowed := true }
def KeysBoundUptoSaid : Prop := keysBoundUptoRow.holds Try.pinned (OpenSpec.upto keysBoundSpec)

/-- 'longlinelaw24.BitmapTells', WHERE WHAT IT READS IS OF BULK AT MOST 1048576: true; the input reads as it did. -/
def bitmapTellsUptoRow : OpenClaim := { program := "ytlppnnehgfpgbaa", sum := "19f8d620401c63bc112aa4f13e2380dad37bf8daa76a046958606dc7a8c31af0", func := "longline/longlinelaw24.BitmapTells", spec := "bitmapTells", apart := false, narrowed := true }
def BitmapTellsUptoSaid : Prop := bitmapTellsUptoRow.holds Try.pinned (OpenSpec.upto bitmapTellsSpec)

/-- 'longlinelaw24.BitmapBytes', WHERE WHAT IT READS IS OF BULK AT MOST 1048576: true; the input reads as it did. -/
def bitmapBytesUptoRow : OpenClaim := { program := "ytlppnnehgfpgbaa", sum := "19f8d620401c63bc112aa4f13e2380dad37bf8daa76a046958606dc7a8c31af0", func := "longline/longlinelaw24.BitmapBytes", spec := "bitmapBytes", apart := false, narrowed := true }
def BitmapBytesUptoSaid : Prop := bitmapBytesUptoRow.holds Try.pinned (OpenSpec.upto bitmapBytesSpec)

/-- 'longlinelaw24.BitmapFills', WHERE WHAT IT READS IS OF BULK AT MOST 1048576: true; the input reads as it did. -/
def bitmapFillsUptoRow : OpenClaim := { program := "ytlppnnehgfpgbaa", sum := "19f8d620401c63bc112aa4f13e2380dad37bf8daa76a046958606dc7a8c31af0", func := "longline/longlinelaw24.BitmapFills", spec := "bitmapFills", apart := false, narrowed := true }
def BitmapFillsUptoSaid : Prop := bitmapFillsUptoRow.holds Try.pinned (OpenSpec.upto bitmapFillsSpec)

/-- 'longlinelaw24.BitmapOrs', WHERE WHAT IT READS IS OF BULK AT MOST 1048576: true; the input reads as it did. -/
def bitmapOrsUptoRow : OpenClaim := { program := "ytlppnnehgfpgbaa", sum := "19f8d620401c63bc112aa4f13e2380dad37bf8daa76a046958606dc7a8c31af0", func := "longline/longlinelaw24.BitmapOrs", spec := "bitmapOrs", apart := false, narrowed := true }
def BitmapOrsUptoSaid : Prop := bitmapOrsUptoRow.holds Try.pinned (OpenSpec.upto bitmapOrsSpec)

end Rows
end Go.Proofs.Ytlppnnehgfpgbaa
