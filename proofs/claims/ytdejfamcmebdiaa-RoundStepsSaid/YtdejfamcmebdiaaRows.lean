/-
  No cell of these rows narrows 'for every input' (looked for: loops, veiled, ifaces, maps, wideKeys, modest, calm, conditions, laid).
  DERIVED. THE GIVEN ROWS OF THIS SEAT. 7 by the template 'for every input the law returns true; each argument reads behind the call as it read before'; 0 by the template 'total and deterministic' (their statements: YtdejfamcmebdiaaTotals.lean).
  GIVEN WITH THE SEED: the statements are not yours to turn. If you find one false, say at which input.
  Laid BY PROGRAM, IN A SANDBOX (cutbox-rows.mjs): the forced cells as the released guide's own fill.sh prints them over the translation aa134fb27dbaa9fd… (all of the seat's roots in one cut). By AI agents, Wed Nov 11 2026. No macro, syntax, notation, axiom, sorry.
-/
import Derived.Test.YtdejfamcmebdiaaChecked
import GoSem.Claim
import GoSem.ClaimJoined
import GoSem.ClaimMapViews
import Derived.JoinedTies
import Derived.KernelRfl
namespace Go.Proofs.Ytdejfamcmebdiaa
/- THE CELL 'sum', in the pinned program and in every row, IS THE sha256 OF THE DUMP (.gsa) THAT YtdejfamcmebdiaaProg.lean LOADS. Nothing in Lean hashes anything: it is a label: what it is worth is what the hold of that sum in a sandbox is worth. -/
noncomputable def Try.pinned : Pinned := { name := "ytdejfamcmebdiaa", sum := "aa134fb27dbaa9fd7b283f07b62fb721a2b9a3d03dcccf0c84ca72776f40f999", checked := Try.checked }
namespace Rows
def none {H : Type} : Left H := { results := [], args := [] }

/-- 'nunciolaw12.RoundSteps': WHATEVER THE INPUT: true; the input reads as it did. -/
def roundStepsSpec : ChangeSpec := { name := "roundSteps", fn := fun _ => fun
  | [d1, d2] => { results := [.lit (.bool true)], args := [d1, d2] }
  | _ => none }
def roundStepsRow : OpenClaim := { program := "ytdejfamcmebdiaa", sum := "aa134fb27dbaa9fd7b283f07b62fb721a2b9a3d03dcccf0c84ca72776f40f999", func := "nuncio/nunciolaw12.RoundSteps", spec := "roundSteps", apart := false }
def RoundStepsSaid : Prop := roundStepsRow.holds Try.pinned (OpenSpec.ofChange roundStepsSpec)

/-- ITS FALSE NEIGHBOUR: 'it returns false'. Refute it at one input. -/
def roundStepsWrong : ChangeSpec := { name := "roundSteps", fn := fun _ => fun
  | [d1, d2] => { results := [.lit (.bool false)], args := [d1, d2] }
  | _ => none }
def RoundStepsWrongFalsely : Prop := roundStepsRow.holds Try.pinned (OpenSpec.ofChange roundStepsWrong)

/-- 'nunciolaw12.RoundOnce': WHATEVER THE INPUT: true; the input reads as it did. -/
def roundOnceSpec : ChangeSpec := { name := "roundOnce", fn := fun _ => fun
  | [d] => { results := [.lit (.bool true)], args := [d] }
  | _ => none }
def roundOnceRow : OpenClaim := { program := "ytdejfamcmebdiaa", sum := "aa134fb27dbaa9fd7b283f07b62fb721a2b9a3d03dcccf0c84ca72776f40f999", func := "nuncio/nunciolaw12.RoundOnce", spec := "roundOnce", apart := false }
def RoundOnceSaid : Prop := roundOnceRow.holds Try.pinned (OpenSpec.ofChange roundOnceSpec)

/-- ITS FALSE NEIGHBOUR: 'it returns false'. Refute it at one input. -/
def roundOnceWrong : ChangeSpec := { name := "roundOnce", fn := fun _ => fun
  | [d] => { results := [.lit (.bool false)], args := [d] }
  | _ => none }
def RoundOnceWrongFalsely : Prop := roundOnceRow.holds Try.pinned (OpenSpec.ofChange roundOnceWrong)

/-- 'nunciolaw12.RoundLocks': WHATEVER THE INPUT: true; the input reads as it did. -/
def roundLocksSpec : ChangeSpec := { name := "roundLocks", fn := fun _ => fun
  | [d] => { results := [.lit (.bool true)], args := [d] }
  | _ => none }
def roundLocksRow : OpenClaim := { program := "ytdejfamcmebdiaa", sum := "aa134fb27dbaa9fd7b283f07b62fb721a2b9a3d03dcccf0c84ca72776f40f999", func := "nuncio/nunciolaw12.RoundLocks", spec := "roundLocks", apart := false }
def RoundLocksSaid : Prop := roundLocksRow.holds Try.pinned (OpenSpec.ofChange roundLocksSpec)

/-- ITS FALSE NEIGHBOUR: 'it returns false'. Refute it at one input. -/
def roundLocksWrong : ChangeSpec := { name := "roundLocks", fn := fun _ => fun
  | [d] => { results := [.lit (.bool false)], args := [d] }
  | _ => none }
def RoundLocksWrongFalsely : Prop := roundLocksRow.holds Try.pinned (OpenSpec.ofChange roundLocksWrong)

/-- 'nunciolaw12.RoundEnds': WHATEVER THE INPUT: true; the input reads as it did. -/
def roundEndsSpec : ChangeSpec := { name := "roundEnds", fn := fun _ => fun
  | [d] => { results := [.lit (.bool true)], args := [d] }
  | _ => none }
def roundEndsRow : OpenClaim := { program := "ytdejfamcmebdiaa", sum := "aa134fb27dbaa9fd7b283f07b62fb721a2b9a3d03dcccf0c84ca72776f40f999", func := "nuncio/nunciolaw12.RoundEnds", spec := "roundEnds", apart := false }
def RoundEndsSaid : Prop := roundEndsRow.holds Try.pinned (OpenSpec.ofChange roundEndsSpec)

/-- ITS FALSE NEIGHBOUR: 'it returns false'. Refute it at one input. -/
def roundEndsWrong : ChangeSpec := { name := "roundEnds", fn := fun _ => fun
  | [d] => { results := [.lit (.bool false)], args := [d] }
  | _ => none }
def RoundEndsWrongFalsely : Prop := roundEndsRow.holds Try.pinned (OpenSpec.ofChange roundEndsWrong)

/-- 'nunciolaw12.RoundValid': WHATEVER THE INPUT: true; the input reads as it did. -/
def roundValidSpec : ChangeSpec := { name := "roundValid", fn := fun _ => fun
  | [d] => { results := [.lit (.bool true)], args := [d] }
  | _ => none }
def roundValidRow : OpenClaim := { program := "ytdejfamcmebdiaa", sum := "aa134fb27dbaa9fd7b283f07b62fb721a2b9a3d03dcccf0c84ca72776f40f999", func := "nuncio/nunciolaw12.RoundValid", spec := "roundValid", apart := false }
def RoundValidSaid : Prop := roundValidRow.holds Try.pinned (OpenSpec.ofChange roundValidSpec)

/-- ITS FALSE NEIGHBOUR: 'it returns false'. Refute it at one input. -/
def roundValidWrong : ChangeSpec := { name := "roundValid", fn := fun _ => fun
  | [d] => { results := [.lit (.bool false)], args := [d] }
  | _ => none }
def RoundValidWrongFalsely : Prop := roundValidRow.holds Try.pinned (OpenSpec.ofChange roundValidWrong)

/-- 'nunciolaw12.RoundWaits': WHATEVER THE INPUT: true; the input reads as it did. -/
def roundWaitsSpec : ChangeSpec := { name := "roundWaits", fn := fun _ => fun
  | [d] => { results := [.lit (.bool true)], args := [d] }
  | _ => none }
def roundWaitsRow : OpenClaim := { program := "ytdejfamcmebdiaa", sum := "aa134fb27dbaa9fd7b283f07b62fb721a2b9a3d03dcccf0c84ca72776f40f999", func := "nuncio/nunciolaw12.RoundWaits", spec := "roundWaits", apart := false }
def RoundWaitsSaid : Prop := roundWaitsRow.holds Try.pinned (OpenSpec.ofChange roundWaitsSpec)

/-- ITS FALSE NEIGHBOUR: 'it returns false'. Refute it at one input. -/
def roundWaitsWrong : ChangeSpec := { name := "roundWaits", fn := fun _ => fun
  | [d] => { results := [.lit (.bool false)], args := [d] }
  | _ => none }
def RoundWaitsWrongFalsely : Prop := roundWaitsRow.holds Try.pinned (OpenSpec.ofChange roundWaitsWrong)

/-- 'nunciolaw12.RoundQuiet': WHATEVER THE INPUT: true; the input reads as it did. -/
def roundQuietSpec : ChangeSpec := { name := "roundQuiet", fn := fun _ => fun
  | [d1, d2] => { results := [.lit (.bool true)], args := [d1, d2] }
  | _ => none }
def roundQuietRow : OpenClaim := { program := "ytdejfamcmebdiaa", sum := "aa134fb27dbaa9fd7b283f07b62fb721a2b9a3d03dcccf0c84ca72776f40f999", func := "nuncio/nunciolaw12.RoundQuiet", spec := "roundQuiet", apart := false }
def RoundQuietSaid : Prop := roundQuietRow.holds Try.pinned (OpenSpec.ofChange roundQuietSpec)

/-- ITS FALSE NEIGHBOUR: 'it returns false'. Refute it at one input. -/
def roundQuietWrong : ChangeSpec := { name := "roundQuiet", fn := fun _ => fun
  | [d1, d2] => { results := [.lit (.bool false)], args := [d1, d2] }
  | _ => none }
def RoundQuietWrongFalsely : Prop := roundQuietRow.holds Try.pinned (OpenSpec.ofChange roundQuietWrong)

/- THE SECOND FORM. 'bulk': how many values and letters a reading holds, each counted each time it is reached (what is shared counts as often as it is met; a slice's spare places count too). A statement '..UptoSaid' is the law's where the arguments, and the package variables that the reading takes, are together of bulk at most 1048576: NARROWER than '..Said'. Prove '..Said' where nothing that the law and all that it calls make is longer than what came in: it says more and counts as full. Else prove '..UptoSaid'. A law counts once. -/
mutual
def uptoBulk {H : Type} : DataW H → Nat
  | .lit (.string bytes) => bytes.length + 1
  | .lit _ => 1
  | .nil => 1
  | .ptr d => uptoBulk d + 1
  | .slice elems spare => uptoBulkAll elems + uptoBulkAll spare + 1
  | .agg parts => uptoBulkAll parts + 1
  | .iface _ d => uptoBulk d + 1
  | .map entries => uptoBulkEntries entries + 1
  | .held _ => 1
def uptoBulkAll {H : Type} : List (DataW H) → Nat
  | [] => 0
  | d :: r => uptoBulk d + uptoBulkAll r
def uptoBulkEntries {H : Type} : List (Lit × DataW H) → Nat
  | [] => 0
  | x :: r => uptoBulkEntry x + uptoBulkEntries r
def uptoBulkEntry {H : Type} : Lit × DataW H → Nat
  | (.string bytes, d) => bytes.length + uptoBulk d + 1
  | (_, d) => uptoBulk d + 1
 end
def uptoSmall : (H : Type) → List (DataW H) → Bool := fun _ ds => decide (uptoBulkAll ds ≤ 1048576)
def OpenSpec.upto (s : _root_.Go.ChangeSpec) : _root_.Go.OpenSpec := { _root_.Go.OpenSpec.ofChange s with cond := some uptoSmall }

/-- 'nunciolaw12.RoundSteps', WHERE WHAT IT READS IS OF BULK AT MOST 1048576: true; the input reads as it did. -/
def roundStepsUptoRow : OpenClaim := { program := "ytdejfamcmebdiaa", sum := "aa134fb27dbaa9fd7b283f07b62fb721a2b9a3d03dcccf0c84ca72776f40f999", func := "nuncio/nunciolaw12.RoundSteps", spec := "roundSteps", apart := false, narrowed := true }
def RoundStepsUptoSaid : Prop := roundStepsUptoRow.holds Try.pinned (OpenSpec.upto roundStepsSpec)

/-- 'nunciolaw12.RoundOnce', WHERE WHAT IT READS IS OF BULK AT MOST 1048576: true; the input reads as it did. -/
def roundOnceUptoRow : OpenClaim := { program := "ytdejfamcmebdiaa", sum := "aa134fb27dbaa9fd7b283f07b62fb721a2b9a3d03dcccf0c84ca72776f40f999", func := "nuncio/nunciolaw12.RoundOnce", spec := "roundOnce", apart := false, narrowed := true }
def RoundOnceUptoSaid : Prop := roundOnceUptoRow.holds Try.pinned (OpenSpec.upto roundOnceSpec)

/-- 'nunciolaw12.RoundLocks', WHERE WHAT IT READS IS OF BULK AT MOST 1048576: true; the input reads as it did. -/
def roundLocksUptoRow : OpenClaim := { program := "ytdejfamcmebdiaa", sum := "aa134fb27dbaa9fd7b283f07b62fb721a2b9a3d03dcccf0c84ca72776f40f999", func := "nuncio/nunciolaw12.RoundLocks", spec := "roundLocks", apart := false, narrowed := true }
def RoundLocksUptoSaid : Prop := roundLocksUptoRow.holds Try.pinned (OpenSpec.upto roundLocksSpec)

/-- 'nunciolaw12.RoundEnds', WHERE WHAT IT READS IS OF BULK AT MOST 1048576: true; the input reads as it did. -/
def roundEndsUptoRow : OpenClaim := { program := "ytdejfamcmebdiaa", sum := "aa134fb27dbaa9fd7b283f07b62fb721a2b9a3d03dcccf0c84ca72776f40f999", func := "nuncio/nunciolaw12.RoundEnds", spec := "roundEnds", apart := false, narrowed := true }
def RoundEndsUptoSaid : Prop := roundEndsUptoRow.holds Try.pinned (OpenSpec.upto roundEndsSpec)

/-- 'nunciolaw12.RoundValid', WHERE WHAT IT READS IS OF BULK AT MOST 1048576: true; the input reads as it did. -/
def roundValidUptoRow : OpenClaim := { program := "ytdejfamcmebdiaa", sum := "aa134fb27dbaa9fd7b283f07b62fb721a2b9a3d03dcccf0c84ca72776f40f999", func := "nuncio/nunciolaw12.RoundValid", spec := "roundValid", apart := false, narrowed := true }
def RoundValidUptoSaid : Prop := roundValidUptoRow.holds Try.pinned (OpenSpec.upto roundValidSpec)

/-- 'nunciolaw12.RoundWaits', WHERE WHAT IT READS IS OF BULK AT MOST 1048576: true; the input reads as it did. -/
def roundWaitsUptoRow : OpenClaim := { program := "ytdejfamcmebdiaa", sum := "aa134fb27dbaa9fd7b283f07b62fb721a2b9a3d03dcccf0c84ca72776f40f999", func := "nuncio/nunciolaw12.RoundWaits", spec := "roundWaits", apart := false, narrowed := true }
def RoundWaitsUptoSaid : Prop := roundWaitsUptoRow.holds Try.pinned (OpenSpec.upto roundWaitsSpec)

/-- 'nunciolaw12.RoundQuiet', WHERE WHAT IT READS IS OF BULK AT MOST 1048576: true; the input reads as it did. -/
def roundQuietUptoRow : OpenClaim := { program := "ytdejfamcmebdiaa", sum := "aa134fb27dbaa9fd7b283f07b62fb721a2b9a3d03dcccf0c84ca72776f40f999", func := "nuncio/nunciolaw12.RoundQuiet", spec := "roundQuiet", apart := false, narrowed := true }
def RoundQuietUptoSaid : Prop := roundQuietUptoRow.holds Try.pinned (OpenSpec.upto roundQuietSpec)

end Rows
end Go.Proofs.Ytdejfamcmebdiaa
