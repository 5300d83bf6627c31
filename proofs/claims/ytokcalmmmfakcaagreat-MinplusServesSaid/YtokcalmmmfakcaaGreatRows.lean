/-
  No cell of these rows narrows 'for every input' (looked for: loops, veiled, ifaces, maps, wideKeys, modest, calm, conditions, laid).
  DERIVED. THE GIVEN ROWS OF THIS SEAT. 6 by the template 'for every input the law returns true; each argument reads behind the call as it read before'; 0 by the template 'total and deterministic' (their statements: YtokcalmmmfakcaaGreatTotals.lean).
  GIVEN WITH THE SEED: the statements are not yours to turn. If you find one false, say at which input.
  Laid BY PROGRAM, IN A SANDBOX (cutbox-rows.mjs): the forced cells as the released guide's own fill.sh prints them over the translation 395cb227b2764c9d… (all of the seat's roots in one cut). By AI agents, Wed Nov 11 2026. No macro, syntax, notation, axiom, sorry.
-/
import Derived.Test.YtokcalmmmfakcaaGreatChecked
import GoSem.Claim
import GoSem.ClaimJoined
import GoSem.ClaimMapViews
import Derived.JoinedTies
import Derived.KernelRfl
namespace Go.Proofs.YtokcalmmmfakcaaGreat
/- THE CELL 'sum', in the pinned program and in every row, IS THE sha256 OF THE DUMP (.gsa) THAT YtokcalmmmfakcaaGreatProg.lean LOADS. Nothing in Lean hashes anything: it is a label: what it is worth is what the hold of that sum in a sandbox is worth. -/
noncomputable def Tryz.pinned : Pinned := { name := "ytokcalmmmfakcaagreat", sum := "395cb227b2764c9de05c7c8ea550580270961a3843d09a87abd54a9380b861f7", checked := Tryz.checked }
namespace Rows
def none {H : Type} : Left H := { results := [], args := [] }

/-- 'postroadlaw04.MinplusDelay': WHATEVER THE INPUT: true; the input reads as it did. -/
def minplusDelaySpec : ChangeSpec := { name := "minplusDelay", fn := fun _ => fun
  | [d1, d2] => { results := [.lit (.bool true)], args := [d1, d2] }
  | _ => none }
def minplusDelayRow : OpenClaim := { program := "ytokcalmmmfakcaagreat", sum := "395cb227b2764c9de05c7c8ea550580270961a3843d09a87abd54a9380b861f7", func := "postroad/postroadlaw04.MinplusDelay", spec := "minplusDelay", inPlace := ["math/bits.Add64", "math/bits.Sub64"], unfollowed := true, recurses := true, named := ["math/bits.divideError", "math/bits.overflowError"], apart := false }
def MinplusDelaySaid : Prop := minplusDelayRow.holds Tryz.pinned (OpenSpec.ofChange minplusDelaySpec)

/-- ITS FALSE NEIGHBOUR: 'it returns false'. Refute it at one input. -/
def minplusDelayWrong : ChangeSpec := { name := "minplusDelay", fn := fun _ => fun
  | [d1, d2] => { results := [.lit (.bool false)], args := [d1, d2] }
  | _ => none }
def MinplusDelayWrongFalsely : Prop := minplusDelayRow.holds Tryz.pinned (OpenSpec.ofChange minplusDelayWrong)

/-- 'postroadlaw04.MinplusServes': WHATEVER THE INPUT: true; the input reads as it did. -/
def minplusServesSpec : ChangeSpec := { name := "minplusServes", fn := fun _ => fun
  | [d1, d2, d3] => { results := [.lit (.bool true)], args := [d1, d2, d3] }
  | _ => none }
def minplusServesRow : OpenClaim := { program := "ytokcalmmmfakcaagreat", sum := "395cb227b2764c9de05c7c8ea550580270961a3843d09a87abd54a9380b861f7", func := "postroad/postroadlaw04.MinplusServes", spec := "minplusServes", inPlace := ["math/bits.Add64", "math/bits.Sub64"], unfollowed := true, recurses := true, named := ["math/bits.divideError", "math/bits.overflowError"], apart := false }
def MinplusServesSaid : Prop := minplusServesRow.holds Tryz.pinned (OpenSpec.ofChange minplusServesSpec)

/-- ITS FALSE NEIGHBOUR: 'it returns false'. Refute it at one input. -/
def minplusServesWrong : ChangeSpec := { name := "minplusServes", fn := fun _ => fun
  | [d1, d2, d3] => { results := [.lit (.bool false)], args := [d1, d2, d3] }
  | _ => none }
def MinplusServesWrongFalsely : Prop := minplusServesRow.holds Tryz.pinned (OpenSpec.ofChange minplusServesWrong)

/-- 'postroadlaw04.MinplusJoins': WHATEVER THE INPUT: true; the input reads as it did. -/
def minplusJoinsSpec : ChangeSpec := { name := "minplusJoins", fn := fun _ => fun
  | [d] => { results := [.lit (.bool true)], args := [d] }
  | _ => none }
def minplusJoinsRow : OpenClaim := { program := "ytokcalmmmfakcaagreat", sum := "395cb227b2764c9de05c7c8ea550580270961a3843d09a87abd54a9380b861f7", func := "postroad/postroadlaw04.MinplusJoins", spec := "minplusJoins", inPlace := ["math/bits.Add64", "math/bits.Sub64"], unfollowed := true, recurses := true, named := ["math/bits.divideError", "math/bits.overflowError"], apart := false }
def MinplusJoinsSaid : Prop := minplusJoinsRow.holds Tryz.pinned (OpenSpec.ofChange minplusJoinsSpec)

/-- ITS FALSE NEIGHBOUR: 'it returns false'. Refute it at one input. -/
def minplusJoinsWrong : ChangeSpec := { name := "minplusJoins", fn := fun _ => fun
  | [d] => { results := [.lit (.bool false)], args := [d] }
  | _ => none }
def MinplusJoinsWrongFalsely : Prop := minplusJoinsRow.holds Tryz.pinned (OpenSpec.ofChange minplusJoinsWrong)

/-- 'postroadlaw04.MinplusBounds': WHATEVER THE INPUT: true; the input reads as it did. -/
def minplusBoundsSpec : ChangeSpec := { name := "minplusBounds", fn := fun _ => fun
  | [d1, d2, d3] => { results := [.lit (.bool true)], args := [d1, d2, d3] }
  | _ => none }
def minplusBoundsRow : OpenClaim := { program := "ytokcalmmmfakcaagreat", sum := "395cb227b2764c9de05c7c8ea550580270961a3843d09a87abd54a9380b861f7", func := "postroad/postroadlaw04.MinplusBounds", spec := "minplusBounds", inPlace := ["math/bits.Add64", "math/bits.Sub64"], unfollowed := true, recurses := true, named := ["math/bits.divideError", "math/bits.overflowError"], apart := false }
def MinplusBoundsSaid : Prop := minplusBoundsRow.holds Tryz.pinned (OpenSpec.ofChange minplusBoundsSpec)

/-- ITS FALSE NEIGHBOUR: 'it returns false'. Refute it at one input. -/
def minplusBoundsWrong : ChangeSpec := { name := "minplusBounds", fn := fun _ => fun
  | [d1, d2, d3] => { results := [.lit (.bool false)], args := [d1, d2, d3] }
  | _ => none }
def MinplusBoundsWrongFalsely : Prop := minplusBoundsRow.holds Tryz.pinned (OpenSpec.ofChange minplusBoundsWrong)

/-- 'postroadlaw04.MinplusLeast': WHATEVER THE INPUT: true; the input reads as it did. -/
def minplusLeastSpec : ChangeSpec := { name := "minplusLeast", fn := fun _ => fun
  | [d1, d2, d3] => { results := [.lit (.bool true)], args := [d1, d2, d3] }
  | _ => none }
def minplusLeastRow : OpenClaim := { program := "ytokcalmmmfakcaagreat", sum := "395cb227b2764c9de05c7c8ea550580270961a3843d09a87abd54a9380b861f7", func := "postroad/postroadlaw04.MinplusLeast", spec := "minplusLeast", inPlace := ["math/bits.Add64", "math/bits.Sub64"], unfollowed := true, recurses := true, named := ["math/bits.divideError", "math/bits.overflowError"], apart := false }
def MinplusLeastSaid : Prop := minplusLeastRow.holds Tryz.pinned (OpenSpec.ofChange minplusLeastSpec)

/-- ITS FALSE NEIGHBOUR: 'it returns false'. Refute it at one input. -/
def minplusLeastWrong : ChangeSpec := { name := "minplusLeast", fn := fun _ => fun
  | [d1, d2, d3] => { results := [.lit (.bool false)], args := [d1, d2, d3] }
  | _ => none }
def MinplusLeastWrongFalsely : Prop := minplusLeastRow.holds Tryz.pinned (OpenSpec.ofChange minplusLeastWrong)

/-- 'postroadlaw04.MinplusLater': WHATEVER THE INPUT: true; the input reads as it did. -/
def minplusLaterSpec : ChangeSpec := { name := "minplusLater", fn := fun _ => fun
  | [d1, d2, d3] => { results := [.lit (.bool true)], args := [d1, d2, d3] }
  | _ => none }
def minplusLaterRow : OpenClaim := { program := "ytokcalmmmfakcaagreat", sum := "395cb227b2764c9de05c7c8ea550580270961a3843d09a87abd54a9380b861f7", func := "postroad/postroadlaw04.MinplusLater", spec := "minplusLater", inPlace := ["math/bits.Add64", "math/bits.Sub64"], unfollowed := true, recurses := true, named := ["math/bits.divideError", "math/bits.overflowError"], apart := false }
def MinplusLaterSaid : Prop := minplusLaterRow.holds Tryz.pinned (OpenSpec.ofChange minplusLaterSpec)

/-- ITS FALSE NEIGHBOUR: 'it returns false'. Refute it at one input. -/
def minplusLaterWrong : ChangeSpec := { name := "minplusLater", fn := fun _ => fun
  | [d1, d2, d3] => { results := [.lit (.bool false)], args := [d1, d2, d3] }
  | _ => none }
def MinplusLaterWrongFalsely : Prop := minplusLaterRow.holds Tryz.pinned (OpenSpec.ofChange minplusLaterWrong)

/- THE SECOND FORM. 'bulk': how many values and letters a reading holds, each counted each time it is reached (what is shared counts as often as it is met; a slice's spare places count too). A statement '..UptoSaid' is the law's where the arguments, and the package variables that the reading takes, are together of bulk at most 1048576: NARROWER than '..Said'. Prove '..Said' where nothing that the law and all that it calls make is longer than what came in: it says more and counts as full. Else prove '..UptoSaid'. A law counts once. -/
mutual
def uptoBulk {H : Type} : DataW H → Nat
  | .lit (.string bytes) => bytes.length + 1
  | .lit _ => 1
  | .nil => 1
  | .ptr d => uptoBulk d + 1
  | .slice elems spare => uptoBulkAll elems + uptoBulkAll spare + 1
  | .agg parts => uptoBulkAll parts + 1
  | .iface _ d => uptoBulk d + 1
  | .map entries => uptoBulkEntries entries + 1
  | .held _ => 1
def uptoBulkAll {H : Type} : List (DataW H) → Nat
  | [] => 0
  | d :: r => uptoBulk d + uptoBulkAll r
def uptoBulkEntries {H : Type} : List (Lit × DataW H) → Nat
  | [] => 0
  | x :: r => uptoBulkEntry x + uptoBulkEntries r
def uptoBulkEntry {H : Type} : Lit × DataW H → Nat
  | (.string bytes, d) => bytes.length + uptoBulk d + 1
  | (_, d) => uptoBulk d + 1
 end
def uptoSmall : (H : Type) → List (DataW H) → Bool := fun _ ds => decide (uptoBulkAll ds ≤ 1048576)
def OpenSpec.upto (s : _root_.Go.ChangeSpec) : _root_.Go.OpenSpec := { _root_.Go.OpenSpec.ofChange s with cond := some uptoSmall }

/-- 'postroadlaw04.MinplusDelay', WHERE WHAT IT READS IS OF BULK AT MOST 1048576: true; the input reads as it did. -/
def minplusDelayUptoRow : OpenClaim := { program := "ytokcalmmmfakcaagreat", sum := "395cb227b2764c9de05c7c8ea550580270961a3843d09a87abd54a9380b861f7", func := "postroad/postroadlaw04.MinplusDelay", spec := "minplusDelay", inPlace := ["math/bits.Add64", "math/bits.Sub64"], unfollowed := true, recurses := true, named := ["math/bits.divideError", "math/bits.overflowError"], apart := false, narrowed := true }
def MinplusDelayUptoSaid : Prop := minplusDelayUptoRow.holds Tryz.pinned (OpenSpec.upto minplusDelaySpec)

/-- 'postroadlaw04.MinplusServes', WHERE WHAT IT READS IS OF BULK AT MOST 1048576: true; the input reads as it did. -/
def minplusServesUptoRow : OpenClaim := { program := "ytokcalmmmfakcaagreat", sum := "395cb227b2764c9de05c7c8ea550580270961a3843d09a87abd54a9380b861f7", func := "postroad/postroadlaw04.MinplusServes", spec := "minplusServes", inPlace := ["math/bits.Add64", "math/bits.Sub64"], unfollowed := true, recurses := true, named := ["math/bits.divideError", "math/bits.overflowError"], apart := false, narrowed := true }
def MinplusServesUptoSaid : Prop := minplusServesUptoRow.holds Tryz.pinned (OpenSpec.upto minplusServesSpec)

/-- 'postroadlaw04.MinplusJoins', WHERE WHAT IT READS IS OF BULK AT MOST 1048576: true; the input reads as it did. -/
def minplusJoinsUptoRow : OpenClaim := { program := "ytokcalmmmfakcaagreat", sum := "395cb227b2764c9de05c7c8ea550580270961a3843d09a87abd54a9380b861f7", func := "postroad/postroadlaw04.MinplusJoins", spec := "minplusJoins", inPlace := ["math/bits.Add64", "math/bits.Sub64"], unfollowed := true, recurses := true, named := ["math/bits.divideError", "math/bits.overflowError"], apart := false, narrowed := true }
def MinplusJoinsUptoSaid : Prop := minplusJoinsUptoRow.holds Tryz.pinned (OpenSpec.upto minplusJoinsSpec)

/-- 'postroadlaw04.MinplusBounds', WHERE WHAT IT READS IS OF BULK AT MOST 1048576: true; the input reads as it did. -/
def minplusBoundsUptoRow : OpenClaim := { program := "ytokcalmmmfakcaagreat", sum := "395cb227b2764c9de05c7c8ea550580270961a3843d09a87abd54a9380b861f7", func := "postroad/postroadlaw04.MinplusBounds", spec := "minplusBounds", inPlace := ["math/bits.Add64", "math/bits.Sub64"], unfollowed := true, recurses := true, named := ["math/bits.divideError", "math/bits.overflowError"], apart := false, narrowed := true }
def MinplusBoundsUptoSaid : Prop := minplusBoundsUptoRow.holds Tryz.pinned (OpenSpec.upto minplusBoundsSpec)

/-- 'postroadlaw04.MinplusLeast', WHERE WHAT IT READS IS OF BULK AT MOST 1048576: true; the input reads as it did. -/
def minplusLeastUptoRow : OpenClaim := { program := "ytokcalmmmfakcaagreat", sum := "395cb227b2764c9de05c7c8ea550580270961a3843d09a87abd54a9380b861f7", func := "postroad/postroadlaw04.MinplusLeast", spec := "minplusLeast", inPlace := ["math/bits.Add64", "math/bits.Sub64"], unfollowed := true, recurses := true, named := ["math/bits.divideError", "math/bits.overflowError"], apart := false, narrowed := true }
def MinplusLeastUptoSaid : Prop := minplusLeastUptoRow.holds Tryz.pinned (OpenSpec.upto minplusLeastSpec)

/-- 'postroadlaw04.MinplusLater', WHERE WHAT IT READS IS OF BULK AT MOST 1048576: true; the input reads as it did. -/
def minplusLaterUptoRow : OpenClaim := { program := "ytokcalmmmfakcaagreat", sum := "395cb227b2764c9de05c7c8ea550580270961a3843d09a87abd54a9380b861f7", func := "postroad/postroadlaw04.MinplusLater", spec := "minplusLater", inPlace := ["math/bits.Add64", "math/bits.Sub64"], unfollowed := true, recurses := true, named := ["math/bits.divideError", "math/bits.overflowError"], apart := false, narrowed := true }
def MinplusLaterUptoSaid : Prop := minplusLaterUptoRow.holds Tryz.pinned (OpenSpec.upto minplusLaterSpec)

end Rows
end Go.Proofs.YtokcalmmmfakcaaGreat
