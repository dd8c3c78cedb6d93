/-
  No cell of these rows narrows 'for every input' (looked for: loops, veiled, ifaces, maps, wideKeys, modest, calm, conditions, laid).
  DERIVED. THE GIVEN ROWS OF THIS SEAT. 7 by the template 'for every input the law returns true; each argument reads behind the call as it read before'; 0 by the template 'total and deterministic' (their statements: YtdbbghmldaekhaaTotals.lean).
  GIVEN WITH THE SEED: the statements are not yours to turn. If you find one false, say at which input.
  Laid BY PROGRAM, IN A SANDBOX (cutbox-rows.mjs): the forced cells as the released guide's own fill.sh prints them over the translation 84f29f8d373776a6… (all of the seat's roots in one cut). By AI agents, Wed Nov 11 2026. No macro, syntax, notation, axiom, sorry.
-/
import Derived.Test.YtdbbghmldaekhaaChecked
import GoSem.Claim
import GoSem.ClaimJoined
import GoSem.ClaimMapViews
import Derived.JoinedTies
import Derived.KernelRfl
namespace Go.Proofs.Ytdbbghmldaekhaa
/- THE CELL 'sum', in the pinned program and in every row, IS THE sha256 OF THE DUMP (.gsa) THAT YtdbbghmldaekhaaProg.lean LOADS. Nothing in Lean hashes anything: it is a label: what it is worth is what the hold of that sum in a sandbox is worth. -/
noncomputable def Try.pinned : Pinned := { name := "ytdbbghmldaekhaa", sum := "84f29f8d373776a6eb8c784c06e0442fb2afb106fae1d0bdc3722544f22eaf57", checked := Try.checked }
namespace Rows
def none {H : Type} : Left H := { results := [], args := [] }

/-- 'colonnadelaw04.DiskWhole': WHATEVER THE INPUT: true; the input reads as it did. -/
def diskWholeSpec : ChangeSpec := { name := "diskWhole", fn := fun _ => fun
  | [d1, d2, d3] => { results := [.lit (.bool true)], args := [d1, d2, d3] }
  | _ => none }
def diskWholeRow : OpenClaim := { program := "ytdbbghmldaekhaa", sum := "84f29f8d373776a6eb8c784c06e0442fb2afb106fae1d0bdc3722544f22eaf57", func := "colonnade/colonnadelaw04.DiskWhole", spec := "diskWhole", inPlace := ["internal/bytealg.MakeNoZero"], unfollowed := true, recurses := true, apart := false }
def DiskWholeSaid : Prop := diskWholeRow.holds Try.pinned (OpenSpec.ofChange diskWholeSpec)

/-- ITS FALSE NEIGHBOUR: 'it returns false'. Refute it at one input. -/
def diskWholeWrong : ChangeSpec := { name := "diskWhole", fn := fun _ => fun
  | [d1, d2, d3] => { results := [.lit (.bool false)], args := [d1, d2, d3] }
  | _ => none }
def DiskWholeWrongFalsely : Prop := diskWholeRow.holds Try.pinned (OpenSpec.ofChange diskWholeWrong)

/-- 'colonnadelaw04.DiskSame': WHATEVER THE INPUT: true; the input reads as it did. -/
def diskSameSpec : ChangeSpec := { name := "diskSame", fn := fun _ => fun
  | [d1, d2] => { results := [.lit (.bool true)], args := [d1, d2] }
  | _ => none }
def diskSameRow : OpenClaim := { program := "ytdbbghmldaekhaa", sum := "84f29f8d373776a6eb8c784c06e0442fb2afb106fae1d0bdc3722544f22eaf57", func := "colonnade/colonnadelaw04.DiskSame", spec := "diskSame", unfollowed := true, recurses := true, apart := false }
def DiskSameSaid : Prop := diskSameRow.holds Try.pinned (OpenSpec.ofChange diskSameSpec)

/-- ITS FALSE NEIGHBOUR: 'it returns false'. Refute it at one input. -/
def diskSameWrong : ChangeSpec := { name := "diskSame", fn := fun _ => fun
  | [d1, d2] => { results := [.lit (.bool false)], args := [d1, d2] }
  | _ => none }
def DiskSameWrongFalsely : Prop := diskSameRow.holds Try.pinned (OpenSpec.ofChange diskSameWrong)

/-- 'colonnadelaw04.DiskDoes': WHATEVER THE INPUT: true; the input reads as it did. -/
def diskDoesSpec : ChangeSpec := { name := "diskDoes", fn := fun _ => fun
  | [d] => { results := [.lit (.bool true)], args := [d] }
  | _ => none }
def diskDoesRow : OpenClaim := { program := "ytdbbghmldaekhaa", sum := "84f29f8d373776a6eb8c784c06e0442fb2afb106fae1d0bdc3722544f22eaf57", func := "colonnade/colonnadelaw04.DiskDoes", spec := "diskDoes", unfollowed := true, recurses := true, apart := false }
def DiskDoesSaid : Prop := diskDoesRow.holds Try.pinned (OpenSpec.ofChange diskDoesSpec)

/-- ITS FALSE NEIGHBOUR: 'it returns false'. Refute it at one input. -/
def diskDoesWrong : ChangeSpec := { name := "diskDoes", fn := fun _ => fun
  | [d] => { results := [.lit (.bool false)], args := [d] }
  | _ => none }
def DiskDoesWrongFalsely : Prop := diskDoesRow.holds Try.pinned (OpenSpec.ofChange diskDoesWrong)

/-- 'colonnadelaw05.PagerSeals': WHATEVER THE INPUT: true; the input reads as it did. -/
def pagerSealsSpec : ChangeSpec := { name := "pagerSeals", fn := fun _ => fun
  | [d1, d2] => { results := [.lit (.bool true)], args := [d1, d2] }
  | _ => none }
def pagerSealsRow : OpenClaim := { program := "ytdbbghmldaekhaa", sum := "84f29f8d373776a6eb8c784c06e0442fb2afb106fae1d0bdc3722544f22eaf57", func := "colonnade/colonnadelaw05.PagerSeals", spec := "pagerSeals", inPlace := ["internal/bytealg.Count", "internal/bytealg.IndexByte", "internal/bytealg.Index"], unfollowed := true, recurses := true, named := ["internal/bytealg.MaxLen"], apart := false }
def PagerSealsSaid : Prop := pagerSealsRow.holds Try.pinned (OpenSpec.ofChange pagerSealsSpec)

/-- ITS FALSE NEIGHBOUR: 'it returns false'. Refute it at one input. -/
def pagerSealsWrong : ChangeSpec := { name := "pagerSeals", fn := fun _ => fun
  | [d1, d2] => { results := [.lit (.bool false)], args := [d1, d2] }
  | _ => none }
def PagerSealsWrongFalsely : Prop := pagerSealsRow.holds Try.pinned (OpenSpec.ofChange pagerSealsWrong)

/-- 'colonnadelaw05.PagerHeads': WHATEVER THE INPUT: true; the input reads as it did. -/
def pagerHeadsSpec : ChangeSpec := { name := "pagerHeads", fn := fun _ => fun
  | [d1, d2, d3, d4] => { results := [.lit (.bool true)], args := [d1, d2, d3, d4] }
  | _ => none }
def pagerHeadsRow : OpenClaim := { program := "ytdbbghmldaekhaa", sum := "84f29f8d373776a6eb8c784c06e0442fb2afb106fae1d0bdc3722544f22eaf57", func := "colonnade/colonnadelaw05.PagerHeads", spec := "pagerHeads", inPlace := ["internal/bytealg.Count", "internal/bytealg.IndexByte", "internal/bytealg.Index"], unfollowed := true, recurses := true, named := ["internal/bytealg.MaxLen"], apart := false }
def PagerHeadsSaid : Prop := pagerHeadsRow.holds Try.pinned (OpenSpec.ofChange pagerHeadsSpec)

/-- ITS FALSE NEIGHBOUR: 'it returns false'. Refute it at one input. -/
def pagerHeadsWrong : ChangeSpec := { name := "pagerHeads", fn := fun _ => fun
  | [d1, d2, d3, d4] => { results := [.lit (.bool false)], args := [d1, d2, d3, d4] }
  | _ => none }
def PagerHeadsWrongFalsely : Prop := pagerHeadsRow.holds Try.pinned (OpenSpec.ofChange pagerHeadsWrong)

/-- 'colonnadelaw05.PagerDamage': WHATEVER THE INPUT: true; the input reads as it did. -/
def pagerDamageSpec : ChangeSpec := { name := "pagerDamage", fn := fun _ => fun
  | [d1, d2, d3, d4] => { results := [.lit (.bool true)], args := [d1, d2, d3, d4] }
  | _ => none }
def pagerDamageRow : OpenClaim := { program := "ytdbbghmldaekhaa", sum := "84f29f8d373776a6eb8c784c06e0442fb2afb106fae1d0bdc3722544f22eaf57", func := "colonnade/colonnadelaw05.PagerDamage", spec := "pagerDamage", inPlace := ["internal/bytealg.Count", "internal/bytealg.IndexByte", "internal/bytealg.Index"], unfollowed := true, recurses := true, named := ["internal/bytealg.MaxLen"], apart := false }
def PagerDamageSaid : Prop := pagerDamageRow.holds Try.pinned (OpenSpec.ofChange pagerDamageSpec)

/-- ITS FALSE NEIGHBOUR: 'it returns false'. Refute it at one input. -/
def pagerDamageWrong : ChangeSpec := { name := "pagerDamage", fn := fun _ => fun
  | [d1, d2, d3, d4] => { results := [.lit (.bool false)], args := [d1, d2, d3, d4] }
  | _ => none }
def PagerDamageWrongFalsely : Prop := pagerDamageRow.holds Try.pinned (OpenSpec.ofChange pagerDamageWrong)

/-- 'colonnadelaw05.PagerCrash': WHATEVER THE INPUT: true; the input reads as it did. -/
def pagerCrashSpec : ChangeSpec := { name := "pagerCrash", fn := fun _ => fun
  | [d1, d2, d3, d4] => { results := [.lit (.bool true)], args := [d1, d2, d3, d4] }
  | _ => none }
def pagerCrashRow : OpenClaim := { program := "ytdbbghmldaekhaa", sum := "84f29f8d373776a6eb8c784c06e0442fb2afb106fae1d0bdc3722544f22eaf57", func := "colonnade/colonnadelaw05.PagerCrash", spec := "pagerCrash", inPlace := ["internal/bytealg.Count", "internal/bytealg.IndexByte", "internal/bytealg.Index"], unfollowed := true, recurses := true, named := ["internal/bytealg.MaxLen"], apart := false }
def PagerCrashSaid : Prop := pagerCrashRow.holds Try.pinned (OpenSpec.ofChange pagerCrashSpec)

/-- ITS FALSE NEIGHBOUR: 'it returns false'. Refute it at one input. -/
def pagerCrashWrong : ChangeSpec := { name := "pagerCrash", fn := fun _ => fun
  | [d1, d2, d3, d4] => { results := [.lit (.bool false)], args := [d1, d2, d3, d4] }
  | _ => none }
def PagerCrashWrongFalsely : Prop := pagerCrashRow.holds Try.pinned (OpenSpec.ofChange pagerCrashWrong)

/- THE SECOND FORM. 'bulk': how many values and letters a reading holds, each counted each time it is reached (what is shared counts as often as it is met; a slice's spare places count too). A statement '..UptoSaid' is the law's where the arguments, and the package variables that the reading takes, are together of bulk at most 1048576: NARROWER than '..Said'. Prove '..Said' where nothing that the law and all that it calls make is longer than what came in: it says more and counts as full. Else prove '..UptoSaid'. A law counts once. -/
mutual
def uptoBulk {H : Type} : DataW H → Nat
  | .lit (.string bytes) => bytes.length + 1
  | .lit _ => 1
  | .nil => 1
  | .ptr d => uptoBulk d + 1
  | .slice elems spare => uptoBulkAll elems + uptoBulkAll spare + 1
  | .agg parts => uptoBulkAll parts + 1
  | .iface _ d => uptoBulk d + 1
  | .map entries => uptoBulkEntries entries + 1
  | .held _ => 1
def uptoBulkAll {H : Type} : List (DataW H) → Nat
  | [] => 0
  | d :: r => uptoBulk d + uptoBulkAll r
def uptoBulkEntries {H : Type} : List (Lit × DataW H) → Nat
  | [] => 0
  | x :: r => uptoBulkEntry x + uptoBulkEntries r
def uptoBulkEntry {H : Type} : Lit × DataW H → Nat
  | (.string bytes, d) => bytes.length + uptoBulk d + 1
  | (_, d) => uptoBulk d + 1
 end
def uptoSmall : (H : Type) → List (DataW H) → Bool := fun _ ds => decide (uptoBulkAll ds ≤ 1048576)
def OpenSpec.upto (s : _root_.Go.ChangeSpec) : _root_.Go.OpenSpec := { _root_.Go.OpenSpec.ofChange s with cond := some uptoSmall }

/-- 'colonnadelaw04.DiskWhole', WHERE WHAT IT READS IS OF BULK AT MOST 1048576: true; the input reads as it did. -/
def diskWholeUptoRow : OpenClaim := { program := "ytdbbghmldaekhaa", sum := "84f29f8d373776a6eb8c784c06e0442fb2afb106fae1d0bdc3722544f22eaf57", func := "colonnade/colonnadelaw04.DiskWhole", spec := "diskWhole", inPlace := ["internal/bytealg.MakeNoZero"], unfollowed := true, recurses := true, apart := false, narrowed := true }
def DiskWholeUptoSaid : Prop := diskWholeUptoRow.holds Try.pinned (OpenSpec.upto diskWholeSpec)

/-- 'colonnadelaw04.DiskSame', WHERE WHAT IT READS IS OF BULK AT MOST 1048576: true; the input reads as it did. -/
def diskSameUptoRow : OpenClaim := { program := "ytdbbghmldaekhaa", sum := "84f29f8d373776a6eb8c784c06e0442fb2afb106fae1d0bdc3722544f22eaf57", func := "colonnade/colonnadelaw04.DiskSame", spec := "diskSame", unfollowed := true, recurses := true, apart := false, narrowed := true }
def DiskSameUptoSaid : Prop := diskSameUptoRow.holds Try.pinned (OpenSpec.upto diskSameSpec)

/-- 'colonnadelaw04.DiskDoes', WHERE WHAT IT READS IS OF BULK AT MOST 1048576: true; the input reads as it did. -/
def diskDoesUptoRow : OpenClaim := { program := "ytdbbghmldaekhaa", sum := "84f29f8d373776a6eb8c784c06e0442fb2afb106fae1d0bdc3722544f22eaf57", func := "colonnade/colonnadelaw04.DiskDoes", spec := "diskDoes", unfollowed := true, recurses := true, apart := false, narrowed := true }
def DiskDoesUptoSaid : Prop := diskDoesUptoRow.holds Try.pinned (OpenSpec.upto diskDoesSpec)

/-- 'colonnadelaw05.PagerSeals', WHERE WHAT IT READS IS OF BULK AT MOST 1048576: true; the input reads as it did. -/
def pagerSealsUptoRow : OpenClaim := { program := "ytdbbghmldaekhaa", sum := "84f29f8d373776a6eb8c784c06e0442fb2afb106fae1d0bdc3722544f22eaf57", func := "colonnade/colonnadelaw05.PagerSeals", spec := "pagerSeals", inPlace := ["internal/bytealg.Count", "internal/bytealg.IndexByte", "internal/bytealg.Index"], unfollowed := true, recurses := true, named := ["internal/bytealg.MaxLen"], apart := false, narrowed := true }
def PagerSealsUptoSaid : Prop := pagerSealsUptoRow.holds Try.pinned (OpenSpec.upto pagerSealsSpec)

/-- 'colonnadelaw05.PagerHeads', WHERE WHAT IT READS IS OF BULK AT MOST 1048576: true; the input reads as it did. -/
def pagerHeadsUptoRow : OpenClaim := { program := "ytdbbghmldaekhaa", sum := "84f29f8d373776a6eb8c784c06e0442fb2afb106fae1d0bdc3722544f22eaf57", func := "colonnade/colonnadelaw05.PagerHeads", spec := "pagerHeads", inPlace := ["internal/bytealg.Count", "internal/bytealg.IndexByte", "internal/bytealg.Index"], unfollowed := true, recurses := true, named := ["internal/bytealg.MaxLen"], apart := false, narrowed := true }
def PagerHeadsUptoSaid : Prop := pagerHeadsUptoRow.holds Try.pinned (OpenSpec.upto pagerHeadsSpec)

/-- 'colonnadelaw05.PagerDamage', WHERE WHAT IT READS IS OF BULK AT MOST 1048576: true; the input reads as it did. -/
def pagerDamageUptoRow : OpenClaim := { program := "ytdbbghmldaekhaa", sum := "84f29f8d373776a6eb8c784c06e0442fb2afb106fae1d0bdc3722544f22eaf57", func := "colonnade/colonnadelaw05.PagerDamage", spec := "pagerDamage", inPlace := ["internal/bytealg.Count", "internal/bytealg.IndexByte", "internal/bytealg.Index"], unfollowed := true, recurses := true, named := ["internal/bytealg.MaxLen"], apart := false, narrowed := true }
def PagerDamageUptoSaid : Prop := pagerDamageUptoRow.holds Try.pinned (OpenSpec.upto pagerDamageSpec)

/-- 'colonnadelaw05.PagerCrash', WHERE WHAT IT READS IS OF BULK AT MOST 1048576: true; the input reads as it did. -/
def pagerCrashUptoRow : OpenClaim := { program := "ytdbbghmldaekhaa", sum := "84f29f8d373776a6eb8c784c06e0442fb2afb106fae1d0bdc3722544f22eaf57", func := "colonnade/colonnadelaw05.PagerCrash", spec := "pagerCrash", inPlace := ["internal/bytealg.Count", "internal/bytealg.IndexByte", "internal/bytealg.Index"], unfollowed := true, recurses := true, named := ["internal/bytealg.MaxLen"], apart := false, narrowed := true }
def PagerCrashUptoSaid : Prop := pagerCrashUptoRow.holds Try.pinned (OpenSpec.upto pagerCrashSpec)

end Rows
end Go.Proofs.Ytdbbghmldaekhaa
