/-
  No cell of these rows narrows 'for every input' (looked for: loops, veiled, ifaces, maps, wideKeys, modest, calm, conditions, laid).
  DERIVED. THE GIVEN ROWS OF THIS SEAT. 6 by the template 'for every input the law returns true; each argument reads behind the call as it read before'; 0 by the template 'total and deterministic' (their statements: YtlmidjgjijmiiaaTotals.lean).
  GIVEN WITH THE SEED: the statements are not yours to turn. If you find one false, say at which input.
  Laid BY PROGRAM, IN A SANDBOX (cutbox-rows.mjs): the forced cells as the released guide's own fill.sh prints them over the translation fd6b1a8b4503cb7c… (all of the seat's roots in one cut). By AI agents, Wed Nov 11 2026. No macro, syntax, notation, axiom, sorry.
-/
import Derived.Test.YtlmidjgjijmiiaaChecked
import GoSem.Claim
import GoSem.ClaimJoined
import GoSem.ClaimMapViews
import Derived.JoinedTies
import Derived.KernelRfl
namespace Go.Proofs.Ytlmidjgjijmiiaa
/- THE CELL 'sum', in the pinned program and in every row, IS THE sha256 OF THE DUMP (.gsa) THAT YtlmidjgjijmiiaaProg.lean LOADS. Nothing in Lean hashes anything: it is a label: what it is worth is what the hold of that sum in a sandbox is worth. -/
noncomputable def Try.pinned : Pinned := { name := "ytlmidjgjijmiiaa", sum := "fd6b1a8b4503cb7c621b91ba9af9966852257369350720846e76336759bd21b1", checked := Try.checked }
namespace Rows
def none {H : Type} : Left H := { results := [], args := [] }

/-- 'strongroomlaw03.AesBytes': WHATEVER THE INPUT: true; the input reads as it did. -/
def aesBytesSpec : ChangeSpec := { name := "aesBytes", fn := fun _ => fun
  | [d1, d2] => { results := [.lit (.bool true)], args := [d1, d2] }
  | _ => none }
def aesBytesRow : OpenClaim := { program := "ytlmidjgjijmiiaa", sum := "fd6b1a8b4503cb7c621b91ba9af9966852257369350720846e76336759bd21b1", func := "strongroom/strongroomlaw03.AesBytes", spec := "aesBytes", apart := false }
def AesBytesSaid : Prop := aesBytesRow.holds Try.pinned (OpenSpec.ofChange aesBytesSpec)

/-- ITS FALSE NEIGHBOUR: 'it returns false'. Refute it at one input. -/
def aesBytesWrong : ChangeSpec := { name := "aesBytes", fn := fun _ => fun
  | [d1, d2] => { results := [.lit (.bool false)], args := [d1, d2] }
  | _ => none }
def AesBytesWrongFalsely : Prop := aesBytesRow.holds Try.pinned (OpenSpec.ofChange aesBytesWrong)

/-- 'strongroomlaw03.AesStates': WHATEVER THE INPUT: true; the input reads as it did. -/
def aesStatesSpec : ChangeSpec := { name := "aesStates", fn := fun _ => fun
  | [d1, d2] => { results := [.lit (.bool true)], args := [d1, d2] }
  | _ => none }
def aesStatesRow : OpenClaim := { program := "ytlmidjgjijmiiaa", sum := "fd6b1a8b4503cb7c621b91ba9af9966852257369350720846e76336759bd21b1", func := "strongroom/strongroomlaw03.AesStates", spec := "aesStates", unfollowed := true, recurses := true, apart := false }
def AesStatesSaid : Prop := aesStatesRow.holds Try.pinned (OpenSpec.ofChange aesStatesSpec)

/-- ITS FALSE NEIGHBOUR: 'it returns false'. Refute it at one input. -/
def aesStatesWrong : ChangeSpec := { name := "aesStates", fn := fun _ => fun
  | [d1, d2] => { results := [.lit (.bool false)], args := [d1, d2] }
  | _ => none }
def AesStatesWrongFalsely : Prop := aesStatesRow.holds Try.pinned (OpenSpec.ofChange aesStatesWrong)

/-- 'strongroomlaw03.AesKeys': WHATEVER THE INPUT: true; the input reads as it did. -/
def aesKeysSpec : ChangeSpec := { name := "aesKeys", fn := fun _ => fun
  | [d] => { results := [.lit (.bool true)], args := [d] }
  | _ => none }
def aesKeysRow : OpenClaim := { program := "ytlmidjgjijmiiaa", sum := "fd6b1a8b4503cb7c621b91ba9af9966852257369350720846e76336759bd21b1", func := "strongroom/strongroomlaw03.AesKeys", spec := "aesKeys", unfollowed := true, recurses := true, apart := false }
def AesKeysSaid : Prop := aesKeysRow.holds Try.pinned (OpenSpec.ofChange aesKeysSpec)

/-- ITS FALSE NEIGHBOUR: 'it returns false'. Refute it at one input. -/
def aesKeysWrong : ChangeSpec := { name := "aesKeys", fn := fun _ => fun
  | [d] => { results := [.lit (.bool false)], args := [d] }
  | _ => none }
def AesKeysWrongFalsely : Prop := aesKeysRow.holds Try.pinned (OpenSpec.ofChange aesKeysWrong)

/-- 'strongroomlaw03.AesRounds': WHATEVER THE INPUT: true; the input reads as it did. -/
def aesRoundsSpec : ChangeSpec := { name := "aesRounds", fn := fun _ => fun
  | [d1, d2, d3] => { results := [.lit (.bool true)], args := [d1, d2, d3] }
  | _ => none }
def aesRoundsRow : OpenClaim := { program := "ytlmidjgjijmiiaa", sum := "fd6b1a8b4503cb7c621b91ba9af9966852257369350720846e76336759bd21b1", func := "strongroom/strongroomlaw03.AesRounds", spec := "aesRounds", unfollowed := true, recurses := true, apart := false }
def AesRoundsSaid : Prop := aesRoundsRow.holds Try.pinned (OpenSpec.ofChange aesRoundsSpec)

/-- ITS FALSE NEIGHBOUR: 'it returns false'. Refute it at one input. -/
def aesRoundsWrong : ChangeSpec := { name := "aesRounds", fn := fun _ => fun
  | [d1, d2, d3] => { results := [.lit (.bool false)], args := [d1, d2, d3] }
  | _ => none }
def AesRoundsWrongFalsely : Prop := aesRoundsRow.holds Try.pinned (OpenSpec.ofChange aesRoundsWrong)

/-- 'strongroomlaw03.AesCiphers': WHATEVER THE INPUT: true; the input reads as it did. -/
def aesCiphersSpec : ChangeSpec := { name := "aesCiphers", fn := fun _ => fun
  | [d1, d2, d3] => { results := [.lit (.bool true)], args := [d1, d2, d3] }
  | _ => none }
def aesCiphersRow : OpenClaim := { program := "ytlmidjgjijmiiaa", sum := "fd6b1a8b4503cb7c621b91ba9af9966852257369350720846e76336759bd21b1", func := "strongroom/strongroomlaw03.AesCiphers", spec := "aesCiphers", unfollowed := true, recurses := true, apart := false }
def AesCiphersSaid : Prop := aesCiphersRow.holds Try.pinned (OpenSpec.ofChange aesCiphersSpec)

/-- ITS FALSE NEIGHBOUR: 'it returns false'. Refute it at one input. -/
def aesCiphersWrong : ChangeSpec := { name := "aesCiphers", fn := fun _ => fun
  | [d1, d2, d3] => { results := [.lit (.bool false)], args := [d1, d2, d3] }
  | _ => none }
def AesCiphersWrongFalsely : Prop := aesCiphersRow.holds Try.pinned (OpenSpec.ofChange aesCiphersWrong)

/-- 'strongroomlaw03.AesNames': WHATEVER THE INPUT: true; the input reads as it did. -/
def aesNamesSpec : ChangeSpec := { name := "aesNames", fn := fun _ => fun
  | [] => { results := [.lit (.bool true)], args := [] }
  | _ => none }
def aesNamesRow : OpenClaim := { program := "ytlmidjgjijmiiaa", sum := "fd6b1a8b4503cb7c621b91ba9af9966852257369350720846e76336759bd21b1", func := "strongroom/strongroomlaw03.AesNames", spec := "aesNames", unfollowed := true, recurses := true, apart := false }
def AesNamesSaid : Prop := aesNamesRow.holds Try.pinned (OpenSpec.ofChange aesNamesSpec)

/-- ITS FALSE NEIGHBOUR: 'it returns false'. Refute it at one input. -/
def aesNamesWrong : ChangeSpec := { name := "aesNames", fn := fun _ => fun
  | [] => { results := [.lit (.bool false)], args := [] }
  | _ => none }
def AesNamesWrongFalsely : Prop := aesNamesRow.holds Try.pinned (OpenSpec.ofChange aesNamesWrong)

/- THE SECOND FORM. 'bulk': how many values and letters a reading holds, each counted each time it is reached (what is shared counts as often as it is met; a slice's spare places count too). A statement '..UptoSaid' is the law's where the arguments, and the package variables that the reading takes, are together of bulk at most 1048576: NARROWER than '..Said'. Prove '..Said' where nothing that the law and all that it calls make is longer than what came in: it says more and counts as full. Else prove '..UptoSaid'. A law counts once. -/
mutual
def uptoBulk {H : Type} : DataW H → Nat
  | .lit (.string bytes) => bytes.length + 1
  | .lit _ => 1
  | .nil => 1
  | .ptr d => uptoBulk d + 1
  | .slice elems spare => uptoBulkAll elems + uptoBulkAll spare + 1
  | .agg parts => uptoBulkAll parts + 1
  | .iface _ d => uptoBulk d + 1
  | .map entries => uptoBulkEntries entries + 1
  | .held _ => 1
def uptoBulkAll {H : Type} : List (DataW H) → Nat
  | [] => 0
  | d :: r => uptoBulk d + uptoBulkAll r
def uptoBulkEntries {H : Type} : List (Lit × DataW H) → Nat
  | [] => 0
  | x :: r => uptoBulkEntry x + uptoBulkEntries r
def uptoBulkEntry {H : Type} : Lit × DataW H → Nat
  | (.string bytes, d) => bytes.length + uptoBulk d + 1
  | (_, d) => uptoBulk d + 1
 end
def uptoSmall : (H : Type) → List (DataW H) → Bool := fun _ ds => decide (uptoBulkAll ds ≤ 1048576)
def OpenSpec.upto (s : _root_.Go.ChangeSpec) : _root_.Go.OpenSpec := { _root_.Go.OpenSpec.ofChange s with cond := some uptoSmall }

/-- 'strongroomlaw03.AesBytes', WHERE WHAT IT READS IS OF BULK AT MOST 1048576: true; the input reads as it did. -/
def aesBytesUptoRow : OpenClaim := { program := "ytlmidjgjijmiiaa", sum := "fd6b1a8b4503cb7c621b91ba9af9966852257369350720846e76336759bd21b1", func := "strongroom/strongroomlaw03.AesBytes", spec := "aesBytes", apart := false, narrowed := true }
def AesBytesUptoSaid : Prop := aesBytesUptoRow.holds Try.pinned (OpenSpec.upto aesBytesSpec)

/-- 'strongroomlaw03.AesStates', WHERE WHAT IT READS IS OF BULK AT MOST 1048576: true; the input reads as it did. -/
def aesStatesUptoRow : OpenClaim := { program := "ytlmidjgjijmiiaa", sum := "fd6b1a8b4503cb7c621b91ba9af9966852257369350720846e76336759bd21b1", func := "strongroom/strongroomlaw03.AesStates", spec := "aesStates", unfollowed := true, recurses := true, apart := false, narrowed := true }
def AesStatesUptoSaid : Prop := aesStatesUptoRow.holds Try.pinned (OpenSpec.upto aesStatesSpec)

/-- 'strongroomlaw03.AesKeys', WHERE WHAT IT READS IS OF BULK AT MOST 1048576: true; the input reads as it did. -/
def aesKeysUptoRow : OpenClaim := { program := "ytlmidjgjijmiiaa", sum := "fd6b1a8b4503cb7c621b91ba9af9966852257369350720846e76336759bd21b1", func := "strongroom/strongroomlaw03.AesKeys", spec := "aesKeys", unfollowed := true, recurses := true, apart := false, narrowed := true }
def AesKeysUptoSaid : Prop := aesKeysUptoRow.holds Try.pinned (OpenSpec.upto aesKeysSpec)

/-- 'strongroomlaw03.AesRounds', WHERE WHAT IT READS IS OF BULK AT MOST 1048576: true; the input reads as it did. -/
def aesRoundsUptoRow : OpenClaim := { program := "ytlmidjgjijmiiaa", sum := "fd6b1a8b4503cb7c621b91ba9af9966852257369350720846e76336759bd21b1", func := "strongroom/strongroomlaw03.AesRounds", spec := "aesRounds", unfollowed := true, recurses := true, apart := false, narrowed := true }
def AesRoundsUptoSaid : Prop := aesRoundsUptoRow.holds Try.pinned (OpenSpec.upto aesRoundsSpec)

/-- 'strongroomlaw03.AesCiphers', WHERE WHAT IT READS IS OF BULK AT MOST 1048576: true; the input reads as it did. -/
def aesCiphersUptoRow : OpenClaim := { program := "ytlmidjgjijmiiaa", sum := "fd6b1a8b4503cb7c621b91ba9af9966852257369350720846e76336759bd21b1", func := "strongroom/strongroomlaw03.AesCiphers", spec := "aesCiphers", unfollowed := true, recurses := true, apart := false, narrowed := true }
def AesCiphersUptoSaid : Prop := aesCiphersUptoRow.holds Try.pinned (OpenSpec.upto aesCiphersSpec)

/-- 'strongroomlaw03.AesNames', WHERE WHAT IT READS IS OF BULK AT MOST 1048576: true; the input reads as it did. -/
def aesNamesUptoRow : OpenClaim := { program := "ytlmidjgjijmiiaa", sum := "fd6b1a8b4503cb7c621b91ba9af9966852257369350720846e76336759bd21b1", func := "strongroom/strongroomlaw03.AesNames", spec := "aesNames", unfollowed := true, recurses := true, apart := false, narrowed := true }
def AesNamesUptoSaid : Prop := aesNamesUptoRow.holds Try.pinned (OpenSpec.upto aesNamesSpec)

end Rows
end Go.Proofs.Ytlmidjgjijmiiaa
