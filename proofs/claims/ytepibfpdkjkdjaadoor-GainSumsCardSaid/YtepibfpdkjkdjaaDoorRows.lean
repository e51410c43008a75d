/-
  NARROWER THAN 'FOR EVERY INPUT', by the rows' own cells (each row's printed sentence says how): NatTwo: laid · NatOne: laid · NatRules: laid · NatTexts: laid · NatDivides: laid · NatBits: laid · NatSmall: laid · GainLogs: laid · GainBounds: laid · GainOf: laid · GainSums: laid · GainProducts: laid · CoxswainWeights: laid.
  DERIVED. THE GIVEN ROWS OF THIS SEAT. 13 by the template 'for every input the law returns true; each argument reads behind the call as it read before'; 0 by the template 'total and deterministic' (their statements: YtepibfpdkjkdjaaDoorTotals.lean).
  GIVEN WITH THE SEED: the statements are not yours to turn. If you find one false, say at which input.
  Laid BY PROGRAM, IN A SANDBOX (cutbox-rows.mjs): the forced cells as the released guide's own fill.sh prints them over the translation f9f82ffee96212ac… (all of the seat's roots in one cut). By AI agents, Wed Nov 11 2026. No macro, syntax, notation, axiom, sorry.
-/
import Derived.Test.YtepibfpdkjkdjaaDoorChecked
import GoSem.PinnedTables
import GoSem.Claim
import GoSem.ClaimJoined
import GoSem.ClaimMapViews
import Derived.JoinedTies
import Derived.KernelRfl
namespace Go.Proofs.YtepibfpdkjkdjaaDoor
/- THE CELL 'sum', in the pinned program and in every row, IS THE sha256 OF THE DUMP (.gsa) THAT YtepibfpdkjkdjaaDoorProg.lean LOADS. Nothing in Lean hashes anything: it is a label: what it is worth is what the hold of that sum in a sandbox is worth. -/
noncomputable def Tryd.pinned : Pinned := { name := "ytepibfpdkjkdjaadoor", sum := "f9f82ffee96212aca4956f964ee0a8338a0454bebec33d44dc097d4e39bddb60", checked := Tryd.checked }
namespace Rows
def none {H : Type} : Left H := { results := [], args := [] }

/- WHAT THE LISTED PACKAGE-LEVEL VARIABLES READ AS WHEN THE CALL BEGINS. Each datum BY PROGRAM (the guide's laid-datum.mjs) off the statement by which the dump's own 'gosem.cut.vars' lays the variable. In a bare row this is a premise. The card (YtepibfpdkjkdjaaDoorCards.lean) ties it to the program's text. -/
def laid_unicode_utf8_acceptRanges {H : Type} : DataW H := .agg [.agg [.lit (.int .u8 128), .lit (.int .u8 191)], .agg [.lit (.int .u8 160), .lit (.int .u8 191)], .agg [.lit (.int .u8 128), .lit (.int .u8 159)], .agg [.lit (.int .u8 144), .lit (.int .u8 191)], .agg [.lit (.int .u8 128), .lit (.int .u8 143)], .agg [.lit (.int .u8 0), .lit (.int .u8 0)], .agg [.lit (.int .u8 0), .lit (.int .u8 0)], .agg [.lit (.int .u8 0), .lit (.int .u8 0)], .agg [.lit (.int .u8 0), .lit (.int .u8 0)], .agg [.lit (.int .u8 0), .lit (.int .u8 0)], .agg [.lit (.int .u8 0), .lit (.int .u8 0)], .agg [.lit (.int .u8 0), .lit (.int .u8 0)], .agg [.lit (.int .u8 0), .lit (.int .u8 0)], .agg [.lit (.int .u8 0), .lit (.int .u8 0)], .agg [.lit (.int .u8 0), .lit (.int .u8 0)], .agg [.lit (.int .u8 0), .lit (.int .u8 0)]]
/-- One of Go's own tables, pinned by name: the form's constant. -/
def laid_unicode_utf8_first : DataW Unit := Go.Pinned.utf8First

/-- 'coxswainlaw03.NatTwo': WHATEVER THE INPUT: true; the input reads as it did. -/
def natTwoSpec : ChangeSpec := { name := "natTwo", fn := fun _ => fun
  | [d1, d2] => { results := [.lit (.bool true)], args := [d1, d2] }
  | _ => none }
def natTwoRow : OpenClaim := { program := "ytepibfpdkjkdjaadoor", sum := "f9f82ffee96212aca4956f964ee0a8338a0454bebec33d44dc097d4e39bddb60", func := "coxswain/coxswainlaw03.NatTwo", spec := "natTwo", inPlace := ["internal/bytealg.IndexByteString", "internal/bytealg.IndexString"], unfollowed := true, recurses := true, named := ["math/bits.overflowError", "unicode/utf8.first", "unicode/utf8.acceptRanges", "internal/bytealg.MaxLen"], apart := false, laid := [("unicode/utf8.acceptRanges", laid_unicode_utf8_acceptRanges), ("unicode/utf8.first", laid_unicode_utf8_first)] }
def NatTwoSaid : Prop := natTwoRow.holds Tryd.pinned (OpenSpec.ofChange natTwoSpec)

/-- ITS FALSE NEIGHBOUR: 'it returns false'. Refute it at one input. -/
def natTwoWrong : ChangeSpec := { name := "natTwo", fn := fun _ => fun
  | [d1, d2] => { results := [.lit (.bool false)], args := [d1, d2] }
  | _ => none }
def NatTwoWrongFalsely : Prop := natTwoRow.holds Tryd.pinned (OpenSpec.ofChange natTwoWrong)

/-- 'coxswainlaw03.NatOne': WHATEVER THE INPUT: true; the input reads as it did. -/
def natOneSpec : ChangeSpec := { name := "natOne", fn := fun _ => fun
  | [d1, d2] => { results := [.lit (.bool true)], args := [d1, d2] }
  | _ => none }
def natOneRow : OpenClaim := { program := "ytepibfpdkjkdjaadoor", sum := "f9f82ffee96212aca4956f964ee0a8338a0454bebec33d44dc097d4e39bddb60", func := "coxswain/coxswainlaw03.NatOne", spec := "natOne", inPlace := ["internal/bytealg.IndexByteString", "internal/bytealg.IndexString"], unfollowed := true, recurses := true, named := ["math/bits.overflowError", "unicode/utf8.first", "unicode/utf8.acceptRanges", "internal/bytealg.MaxLen"], apart := false, laid := [("unicode/utf8.acceptRanges", laid_unicode_utf8_acceptRanges), ("unicode/utf8.first", laid_unicode_utf8_first)] }
def NatOneSaid : Prop := natOneRow.holds Tryd.pinned (OpenSpec.ofChange natOneSpec)

/-- ITS FALSE NEIGHBOUR: 'it returns false'. Refute it at one input. -/
def natOneWrong : ChangeSpec := { name := "natOne", fn := fun _ => fun
  | [d1, d2] => { results := [.lit (.bool false)], args := [d1, d2] }
  | _ => none }
def NatOneWrongFalsely : Prop := natOneRow.holds Tryd.pinned (OpenSpec.ofChange natOneWrong)

/-- 'coxswainlaw03.NatRules': WHATEVER THE INPUT: true; the input reads as it did. -/
def natRulesSpec : ChangeSpec := { name := "natRules", fn := fun _ => fun
  | [d1, d2, d3] => { results := [.lit (.bool true)], args := [d1, d2, d3] }
  | _ => none }
def natRulesRow : OpenClaim := { program := "ytepibfpdkjkdjaadoor", sum := "f9f82ffee96212aca4956f964ee0a8338a0454bebec33d44dc097d4e39bddb60", func := "coxswain/coxswainlaw03.NatRules", spec := "natRules", inPlace := ["internal/bytealg.IndexByteString", "internal/bytealg.IndexString"], unfollowed := true, recurses := true, named := ["math/bits.overflowError", "unicode/utf8.first", "unicode/utf8.acceptRanges", "internal/bytealg.MaxLen"], apart := false, laid := [("unicode/utf8.acceptRanges", laid_unicode_utf8_acceptRanges), ("unicode/utf8.first", laid_unicode_utf8_first)] }
def NatRulesSaid : Prop := natRulesRow.holds Tryd.pinned (OpenSpec.ofChange natRulesSpec)

/-- ITS FALSE NEIGHBOUR: 'it returns false'. Refute it at one input. -/
def natRulesWrong : ChangeSpec := { name := "natRules", fn := fun _ => fun
  | [d1, d2, d3] => { results := [.lit (.bool false)], args := [d1, d2, d3] }
  | _ => none }
def NatRulesWrongFalsely : Prop := natRulesRow.holds Tryd.pinned (OpenSpec.ofChange natRulesWrong)

/-- 'coxswainlaw03.NatTexts': WHATEVER THE INPUT: true; the input reads as it did. -/
def natTextsSpec : ChangeSpec := { name := "natTexts", fn := fun _ => fun
  | [d1, d2] => { results := [.lit (.bool true)], args := [d1, d2] }
  | _ => none }
def natTextsRow : OpenClaim := { program := "ytepibfpdkjkdjaadoor", sum := "f9f82ffee96212aca4956f964ee0a8338a0454bebec33d44dc097d4e39bddb60", func := "coxswain/coxswainlaw03.NatTexts", spec := "natTexts", inPlace := ["internal/bytealg.IndexByteString", "internal/bytealg.IndexString"], unfollowed := true, recurses := true, named := ["math/bits.overflowError", "unicode/utf8.first", "unicode/utf8.acceptRanges", "internal/bytealg.MaxLen"], apart := false, laid := [("unicode/utf8.acceptRanges", laid_unicode_utf8_acceptRanges), ("unicode/utf8.first", laid_unicode_utf8_first)] }
def NatTextsSaid : Prop := natTextsRow.holds Tryd.pinned (OpenSpec.ofChange natTextsSpec)

/-- ITS FALSE NEIGHBOUR: 'it returns false'. Refute it at one input. -/
def natTextsWrong : ChangeSpec := { name := "natTexts", fn := fun _ => fun
  | [d1, d2] => { results := [.lit (.bool false)], args := [d1, d2] }
  | _ => none }
def NatTextsWrongFalsely : Prop := natTextsRow.holds Tryd.pinned (OpenSpec.ofChange natTextsWrong)

/-- 'coxswainlaw03.NatDivides': WHATEVER THE INPUT: true; the input reads as it did. -/
def natDividesSpec : ChangeSpec := { name := "natDivides", fn := fun _ => fun
  | [d1, d2, d3] => { results := [.lit (.bool true)], args := [d1, d2, d3] }
  | _ => none }
def natDividesRow : OpenClaim := { program := "ytepibfpdkjkdjaadoor", sum := "f9f82ffee96212aca4956f964ee0a8338a0454bebec33d44dc097d4e39bddb60", func := "coxswain/coxswainlaw03.NatDivides", spec := "natDivides", inPlace := ["internal/bytealg.IndexByteString", "internal/bytealg.IndexString"], unfollowed := true, recurses := true, named := ["math/bits.overflowError", "unicode/utf8.first", "unicode/utf8.acceptRanges", "internal/bytealg.MaxLen"], apart := false, laid := [("unicode/utf8.acceptRanges", laid_unicode_utf8_acceptRanges), ("unicode/utf8.first", laid_unicode_utf8_first)] }
def NatDividesSaid : Prop := natDividesRow.holds Tryd.pinned (OpenSpec.ofChange natDividesSpec)

/-- ITS FALSE NEIGHBOUR: 'it returns false'. Refute it at one input. -/
def natDividesWrong : ChangeSpec := { name := "natDivides", fn := fun _ => fun
  | [d1, d2, d3] => { results := [.lit (.bool false)], args := [d1, d2, d3] }
  | _ => none }
def NatDividesWrongFalsely : Prop := natDividesRow.holds Tryd.pinned (OpenSpec.ofChange natDividesWrong)

/-- 'coxswainlaw03.NatBits': WHATEVER THE INPUT: true; the input reads as it did. -/
def natBitsSpec : ChangeSpec := { name := "natBits", fn := fun _ => fun
  | [d1, d2] => { results := [.lit (.bool true)], args := [d1, d2] }
  | _ => none }
def natBitsRow : OpenClaim := { program := "ytepibfpdkjkdjaadoor", sum := "f9f82ffee96212aca4956f964ee0a8338a0454bebec33d44dc097d4e39bddb60", func := "coxswain/coxswainlaw03.NatBits", spec := "natBits", inPlace := ["internal/bytealg.IndexByteString", "internal/bytealg.IndexString"], unfollowed := true, recurses := true, named := ["math/bits.overflowError", "unicode/utf8.first", "unicode/utf8.acceptRanges", "internal/bytealg.MaxLen"], apart := false, laid := [("unicode/utf8.acceptRanges", laid_unicode_utf8_acceptRanges), ("unicode/utf8.first", laid_unicode_utf8_first)] }
def NatBitsSaid : Prop := natBitsRow.holds Tryd.pinned (OpenSpec.ofChange natBitsSpec)

/-- ITS FALSE NEIGHBOUR: 'it returns false'. Refute it at one input. -/
def natBitsWrong : ChangeSpec := { name := "natBits", fn := fun _ => fun
  | [d1, d2] => { results := [.lit (.bool false)], args := [d1, d2] }
  | _ => none }
def NatBitsWrongFalsely : Prop := natBitsRow.holds Tryd.pinned (OpenSpec.ofChange natBitsWrong)

/-- 'coxswainlaw03.NatSmall': WHATEVER THE INPUT: true; the input reads as it did. -/
def natSmallSpec : ChangeSpec := { name := "natSmall", fn := fun _ => fun
  | [d1, d2] => { results := [.lit (.bool true)], args := [d1, d2] }
  | _ => none }
def natSmallRow : OpenClaim := { program := "ytepibfpdkjkdjaadoor", sum := "f9f82ffee96212aca4956f964ee0a8338a0454bebec33d44dc097d4e39bddb60", func := "coxswain/coxswainlaw03.NatSmall", spec := "natSmall", inPlace := ["internal/bytealg.IndexByteString", "internal/bytealg.IndexString"], unfollowed := true, recurses := true, named := ["math/bits.overflowError", "unicode/utf8.first", "unicode/utf8.acceptRanges", "internal/bytealg.MaxLen"], apart := false, laid := [("unicode/utf8.acceptRanges", laid_unicode_utf8_acceptRanges), ("unicode/utf8.first", laid_unicode_utf8_first)] }
def NatSmallSaid : Prop := natSmallRow.holds Tryd.pinned (OpenSpec.ofChange natSmallSpec)

/-- ITS FALSE NEIGHBOUR: 'it returns false'. Refute it at one input. -/
def natSmallWrong : ChangeSpec := { name := "natSmall", fn := fun _ => fun
  | [d1, d2] => { results := [.lit (.bool false)], args := [d1, d2] }
  | _ => none }
def NatSmallWrongFalsely : Prop := natSmallRow.holds Tryd.pinned (OpenSpec.ofChange natSmallWrong)

/-- 'coxswainlaw04.GainLogs': WHATEVER THE INPUT: true; the input reads as it did. -/
def gainLogsSpec : ChangeSpec := { name := "gainLogs", fn := fun _ => fun
  | [d] => { results := [.lit (.bool true)], args := [d] }
  | _ => none }
def gainLogsRow : OpenClaim := { program := "ytepibfpdkjkdjaadoor", sum := "f9f82ffee96212aca4956f964ee0a8338a0454bebec33d44dc097d4e39bddb60", func := "coxswain/coxswainlaw04.GainLogs", spec := "gainLogs", inPlace := ["internal/bytealg.IndexByteString", "internal/bytealg.IndexString"], unfollowed := true, recurses := true, named := ["math/bits.overflowError", "unicode/utf8.first", "unicode/utf8.acceptRanges", "internal/bytealg.MaxLen"], apart := false, laid := [("unicode/utf8.acceptRanges", laid_unicode_utf8_acceptRanges), ("unicode/utf8.first", laid_unicode_utf8_first)] }
def GainLogsSaid : Prop := gainLogsRow.holds Tryd.pinned (OpenSpec.ofChange gainLogsSpec)

/-- ITS FALSE NEIGHBOUR: 'it returns false'. Refute it at one input. -/
def gainLogsWrong : ChangeSpec := { name := "gainLogs", fn := fun _ => fun
  | [d] => { results := [.lit (.bool false)], args := [d] }
  | _ => none }
def GainLogsWrongFalsely : Prop := gainLogsRow.holds Tryd.pinned (OpenSpec.ofChange gainLogsWrong)

/-- 'coxswainlaw04.GainBounds': WHATEVER THE INPUT: true; the input reads as it did. -/
def gainBoundsSpec : ChangeSpec := { name := "gainBounds", fn := fun _ => fun
  | [d1, d2] => { results := [.lit (.bool true)], args := [d1, d2] }
  | _ => none }
def gainBoundsRow : OpenClaim := { program := "ytepibfpdkjkdjaadoor", sum := "f9f82ffee96212aca4956f964ee0a8338a0454bebec33d44dc097d4e39bddb60", func := "coxswain/coxswainlaw04.GainBounds", spec := "gainBounds", inPlace := ["internal/bytealg.IndexByteString", "internal/bytealg.IndexString"], unfollowed := true, recurses := true, named := ["math/bits.overflowError", "unicode/utf8.first", "unicode/utf8.acceptRanges", "internal/bytealg.MaxLen"], apart := false, laid := [("unicode/utf8.acceptRanges", laid_unicode_utf8_acceptRanges), ("unicode/utf8.first", laid_unicode_utf8_first)] }
def GainBoundsSaid : Prop := gainBoundsRow.holds Tryd.pinned (OpenSpec.ofChange gainBoundsSpec)

/-- ITS FALSE NEIGHBOUR: 'it returns false'. Refute it at one input. -/
def gainBoundsWrong : ChangeSpec := { name := "gainBounds", fn := fun _ => fun
  | [d1, d2] => { results := [.lit (.bool false)], args := [d1, d2] }
  | _ => none }
def GainBoundsWrongFalsely : Prop := gainBoundsRow.holds Tryd.pinned (OpenSpec.ofChange gainBoundsWrong)

/-- 'coxswainlaw04.GainOf': WHATEVER THE INPUT: true; the input reads as it did. -/
def gainOfSpec : ChangeSpec := { name := "gainOf", fn := fun _ => fun
  | [d1, d2] => { results := [.lit (.bool true)], args := [d1, d2] }
  | _ => none }
def gainOfRow : OpenClaim := { program := "ytepibfpdkjkdjaadoor", sum := "f9f82ffee96212aca4956f964ee0a8338a0454bebec33d44dc097d4e39bddb60", func := "coxswain/coxswainlaw04.GainOf", spec := "gainOf", inPlace := ["internal/bytealg.IndexByteString", "internal/bytealg.IndexString"], unfollowed := true, recurses := true, named := ["math/bits.overflowError", "unicode/utf8.first", "unicode/utf8.acceptRanges", "internal/bytealg.MaxLen"], apart := false, laid := [("unicode/utf8.acceptRanges", laid_unicode_utf8_acceptRanges), ("unicode/utf8.first", laid_unicode_utf8_first)] }
def GainOfSaid : Prop := gainOfRow.holds Tryd.pinned (OpenSpec.ofChange gainOfSpec)

/-- ITS FALSE NEIGHBOUR: 'it returns false'. Refute it at one input. -/
def gainOfWrong : ChangeSpec := { name := "gainOf", fn := fun _ => fun
  | [d1, d2] => { results := [.lit (.bool false)], args := [d1, d2] }
  | _ => none }
def GainOfWrongFalsely : Prop := gainOfRow.holds Tryd.pinned (OpenSpec.ofChange gainOfWrong)

/-- 'coxswainlaw04.GainSums': WHATEVER THE INPUT: true; the input reads as it did. -/
def gainSumsSpec : ChangeSpec := { name := "gainSums", fn := fun _ => fun
  | [d1, d2] => { results := [.lit (.bool true)], args := [d1, d2] }
  | _ => none }
def gainSumsRow : OpenClaim := { program := "ytepibfpdkjkdjaadoor", sum := "f9f82ffee96212aca4956f964ee0a8338a0454bebec33d44dc097d4e39bddb60", func := "coxswain/coxswainlaw04.GainSums", spec := "gainSums", inPlace := ["internal/bytealg.IndexByteString", "internal/bytealg.IndexString"], unfollowed := true, recurses := true, named := ["math/bits.overflowError", "unicode/utf8.first", "unicode/utf8.acceptRanges", "internal/bytealg.MaxLen"], apart := false, laid := [("unicode/utf8.acceptRanges", laid_unicode_utf8_acceptRanges), ("unicode/utf8.first", laid_unicode_utf8_first)] }
def GainSumsSaid : Prop := gainSumsRow.holds Tryd.pinned (OpenSpec.ofChange gainSumsSpec)

/-- ITS FALSE NEIGHBOUR: 'it returns false'. Refute it at one input. -/
def gainSumsWrong : ChangeSpec := { name := "gainSums", fn := fun _ => fun
  | [d1, d2] => { results := [.lit (.bool false)], args := [d1, d2] }
  | _ => none }
def GainSumsWrongFalsely : Prop := gainSumsRow.holds Tryd.pinned (OpenSpec.ofChange gainSumsWrong)

/-- 'coxswainlaw04.GainProducts': WHATEVER THE INPUT: true; the input reads as it did. -/
def gainProductsSpec : ChangeSpec := { name := "gainProducts", fn := fun _ => fun
  | [d1, d2] => { results := [.lit (.bool true)], args := [d1, d2] }
  | _ => none }
def gainProductsRow : OpenClaim := { program := "ytepibfpdkjkdjaadoor", sum := "f9f82ffee96212aca4956f964ee0a8338a0454bebec33d44dc097d4e39bddb60", func := "coxswain/coxswainlaw04.GainProducts", spec := "gainProducts", inPlace := ["internal/bytealg.IndexByteString", "internal/bytealg.IndexString"], unfollowed := true, recurses := true, named := ["math/bits.overflowError", "unicode/utf8.first", "unicode/utf8.acceptRanges", "internal/bytealg.MaxLen"], apart := false, laid := [("unicode/utf8.acceptRanges", laid_unicode_utf8_acceptRanges), ("unicode/utf8.first", laid_unicode_utf8_first)] }
def GainProductsSaid : Prop := gainProductsRow.holds Tryd.pinned (OpenSpec.ofChange gainProductsSpec)

/-- ITS FALSE NEIGHBOUR: 'it returns false'. Refute it at one input. -/
def gainProductsWrong : ChangeSpec := { name := "gainProducts", fn := fun _ => fun
  | [d1, d2] => { results := [.lit (.bool false)], args := [d1, d2] }
  | _ => none }
def GainProductsWrongFalsely : Prop := gainProductsRow.holds Tryd.pinned (OpenSpec.ofChange gainProductsWrong)

/-- 'coxswaintop.CoxswainWeights': WHATEVER THE INPUT: true; the input reads as it did. -/
def coxswainWeightsSpec : ChangeSpec := { name := "coxswainWeights", fn := fun _ => fun
  | [d1, d2] => { results := [.lit (.bool true)], args := [d1, d2] }
  | _ => none }
def coxswainWeightsRow : OpenClaim := { program := "ytepibfpdkjkdjaadoor", sum := "f9f82ffee96212aca4956f964ee0a8338a0454bebec33d44dc097d4e39bddb60", func := "coxswain/coxswaintop.CoxswainWeights", spec := "coxswainWeights", inPlace := ["internal/bytealg.IndexByteString", "internal/bytealg.IndexString"], unfollowed := true, recurses := true, named := ["math/bits.overflowError", "unicode/utf8.first", "unicode/utf8.acceptRanges", "internal/bytealg.MaxLen"], apart := false, laid := [("unicode/utf8.acceptRanges", laid_unicode_utf8_acceptRanges), ("unicode/utf8.first", laid_unicode_utf8_first)] }
def CoxswainWeightsSaid : Prop := coxswainWeightsRow.holds Tryd.pinned (OpenSpec.ofChange coxswainWeightsSpec)

/-- ITS FALSE NEIGHBOUR: 'it returns false'. Refute it at one input. -/
def coxswainWeightsWrong : ChangeSpec := { name := "coxswainWeights", fn := fun _ => fun
  | [d1, d2] => { results := [.lit (.bool false)], args := [d1, d2] }
  | _ => none }
def CoxswainWeightsWrongFalsely : Prop := coxswainWeightsRow.holds Tryd.pinned (OpenSpec.ofChange coxswainWeightsWrong)

/- THE SECOND FORM. 'bulk': how many values and letters a reading holds, each counted each time it is reached (what is shared counts as often as it is met; a slice's spare places count too). A statement '..UptoSaid' is the law's where the arguments, and the package variables that the reading takes, are together of bulk at most 1048576: NARROWER than '..Said'. Prove '..Said' where nothing that the law and all that it calls make is longer than what came in: it says more and counts as full. Else prove '..UptoSaid'. A law counts once. -/
mutual
def uptoBulk {H : Type} : DataW H → Nat
  | .lit (.string bytes) => bytes.length + 1
  | .lit _ => 1
  | .nil => 1
  | .ptr d => uptoBulk d + 1
  | .slice elems spare => uptoBulkAll elems + uptoBulkAll spare + 1
  | .agg parts => uptoBulkAll parts + 1
  | .iface _ d => uptoBulk d + 1
  | .map entries => uptoBulkEntries entries + 1
  | .held _ => 1
def uptoBulkAll {H : Type} : List (DataW H) → Nat
  | [] => 0
  | d :: r => uptoBulk d + uptoBulkAll r
def uptoBulkEntries {H : Type} : List (Lit × DataW H) → Nat
  | [] => 0
  | x :: r => uptoBulkEntry x + uptoBulkEntries r
def uptoBulkEntry {H : Type} : Lit × DataW H → Nat
  | (.string bytes, d) => bytes.length + uptoBulk d + 1
  | (_, d) => uptoBulk d + 1
 end
def uptoSmall : (H : Type) → List (DataW H) → Bool := fun _ ds => decide (uptoBulkAll ds ≤ 1048576)
def OpenSpec.upto (s : _root_.Go.ChangeSpec) : _root_.Go.OpenSpec := { _root_.Go.OpenSpec.ofChange s with cond := some uptoSmall }

/-- 'coxswainlaw03.NatTwo', WHERE WHAT IT READS IS OF BULK AT MOST 1048576: true; the input reads as it did. -/
def natTwoUptoRow : OpenClaim := { program := "ytepibfpdkjkdjaadoor", sum := "f9f82ffee96212aca4956f964ee0a8338a0454bebec33d44dc097d4e39bddb60", func := "coxswain/coxswainlaw03.NatTwo", spec := "natTwo", inPlace := ["internal/bytealg.IndexByteString", "internal/bytealg.IndexString"], unfollowed := true, recurses := true, named := ["math/bits.overflowError", "unicode/utf8.first", "unicode/utf8.acceptRanges", "internal/bytealg.MaxLen"], apart := false, laid := [("unicode/utf8.acceptRanges", laid_unicode_utf8_acceptRanges), ("unicode/utf8.first", laid_unicode_utf8_first)], narrowed := true }
def NatTwoUptoSaid : Prop := natTwoUptoRow.holds Tryd.pinned (OpenSpec.upto natTwoSpec)

/-- 'coxswainlaw03.NatOne', WHERE WHAT IT READS IS OF BULK AT MOST 1048576: true; the input reads as it did. -/
def natOneUptoRow : OpenClaim := { program := "ytepibfpdkjkdjaadoor", sum := "f9f82ffee96212aca4956f964ee0a8338a0454bebec33d44dc097d4e39bddb60", func := "coxswain/coxswainlaw03.NatOne", spec := "natOne", inPlace := ["internal/bytealg.IndexByteString", "internal/bytealg.IndexString"], unfollowed := true, recurses := true, named := ["math/bits.overflowError", "unicode/utf8.first", "unicode/utf8.acceptRanges", "internal/bytealg.MaxLen"], apart := false, laid := [("unicode/utf8.acceptRanges", laid_unicode_utf8_acceptRanges), ("unicode/utf8.first", laid_unicode_utf8_first)], narrowed := true }
def NatOneUptoSaid : Prop := natOneUptoRow.holds Tryd.pinned (OpenSpec.upto natOneSpec)

/-- 'coxswainlaw03.NatRules', WHERE WHAT IT READS IS OF BULK AT MOST 1048576: true; the input reads as it did. -/
def natRulesUptoRow : OpenClaim := { program := "ytepibfpdkjkdjaadoor", sum := "f9f82ffee96212aca4956f964ee0a8338a0454bebec33d44dc097d4e39bddb60", func := "coxswain/coxswainlaw03.NatRules", spec := "natRules", inPlace := ["internal/bytealg.IndexByteString", "internal/bytealg.IndexString"], unfollowed := true, recurses := true, named := ["math/bits.overflowError", "unicode/utf8.first", "unicode/utf8.acceptRanges", "internal/bytealg.MaxLen"], apart := false, laid := [("unicode/utf8.acceptRanges", laid_unicode_utf8_acceptRanges), ("unicode/utf8.first", laid_unicode_utf8_first)], narrowed := true }
def NatRulesUptoSaid : Prop := natRulesUptoRow.holds Tryd.pinned (OpenSpec.upto natRulesSpec)

/-- 'coxswainlaw03.NatTexts', WHERE WHAT IT READS IS OF BULK AT MOST 1048576: true; the input reads as it did. -/
def natTextsUptoRow : OpenClaim := { program := "ytepibfpdkjkdjaadoor", sum := "f9f82ffee96212aca4956f964ee0a8338a0454bebec33d44dc097d4e39bddb60", func := "coxswain/coxswainlaw03.NatTexts", spec := "natTexts", inPlace := ["internal/bytealg.IndexByteString", "internal/bytealg.IndexString"], unfollowed := true, recurses := true, named := ["math/bits.overflowError", "unicode/utf8.first", "unicode/utf8.acceptRanges", "internal/bytealg.MaxLen"], apart := false, laid := [("unicode/utf8.acceptRanges", laid_unicode_utf8_acceptRanges), ("unicode/utf8.first", laid_unicode_utf8_first)], narrowed := true }
def NatTextsUptoSaid : Prop := natTextsUptoRow.holds Tryd.pinned (OpenSpec.upto natTextsSpec)

/-- 'coxswainlaw03.NatDivides', WHERE WHAT IT READS IS OF BULK AT MOST 1048576: true; the input reads as it did. -/
def natDividesUptoRow : OpenClaim := { program := "ytepibfpdkjkdjaadoor", sum := "f9f82ffee96212aca4956f964ee0a8338a0454bebec33d44dc097d4e39bddb60", func := "coxswain/coxswainlaw03.NatDivides", spec := "natDivides", inPlace := ["internal/bytealg.IndexByteString", "internal/bytealg.IndexString"], unfollowed := true, recurses := true, named := ["math/bits.overflowError", "unicode/utf8.first", "unicode/utf8.acceptRanges", "internal/bytealg.MaxLen"], apart := false, laid := [("unicode/utf8.acceptRanges", laid_unicode_utf8_acceptRanges), ("unicode/utf8.first", laid_unicode_utf8_first)], narrowed := true }
def NatDividesUptoSaid : Prop := natDividesUptoRow.holds Tryd.pinned (OpenSpec.upto natDividesSpec)

/-- 'coxswainlaw03.NatBits', WHERE WHAT IT READS IS OF BULK AT MOST 1048576: true; the input reads as it did. -/
def natBitsUptoRow : OpenClaim := { program := "ytepibfpdkjkdjaadoor", sum := "f9f82ffee96212aca4956f964ee0a8338a0454bebec33d44dc097d4e39bddb60", func := "coxswain/coxswainlaw03.NatBits", spec := "natBits", inPlace := ["internal/bytealg.IndexByteString", "internal/bytealg.IndexString"], unfollowed := true, recurses := true, named := ["math/bits.overflowError", "unicode/utf8.first", "unicode/utf8.acceptRanges", "internal/bytealg.MaxLen"], apart := false, laid := [("unicode/utf8.acceptRanges", laid_unicode_utf8_acceptRanges), ("unicode/utf8.first", laid_unicode_utf8_first)], narrowed := true }
def NatBitsUptoSaid : Prop := natBitsUptoRow.holds Tryd.pinned (OpenSpec.upto natBitsSpec)

/-- 'coxswainlaw03.NatSmall', WHERE WHAT IT READS IS OF BULK AT MOST 1048576: true; the input reads as it did. -/
def natSmallUptoRow : OpenClaim := { program := "ytepibfpdkjkdjaadoor", sum := "f9f82ffee96212aca4956f964ee0a8338a0454bebec33d44dc097d4e39bddb60", func := "coxswain/coxswainlaw03.NatSmall", spec := "natSmall", inPlace := ["internal/bytealg.IndexByteString", "internal/bytealg.IndexString"], unfollowed := true, recurses := true, named := ["math/bits.overflowError", "unicode/utf8.first", "unicode/utf8.acceptRanges", "internal/bytealg.MaxLen"], apart := false, laid := [("unicode/utf8.acceptRanges", laid_unicode_utf8_acceptRanges), ("unicode/utf8.first", laid_unicode_utf8_first)], narrowed := true }
def NatSmallUptoSaid : Prop := natSmallUptoRow.holds Tryd.pinned (OpenSpec.upto natSmallSpec)

/-- 'coxswainlaw04.GainLogs', WHERE WHAT IT READS IS OF BULK AT MOST 1048576: true; the input reads as it did. -/
def gainLogsUptoRow : OpenClaim := { program := "ytepibfpdkjkdjaadoor", sum := "f9f82ffee96212aca4956f964ee0a8338a0454bebec33d44dc097d4e39bddb60", func := "coxswain/coxswainlaw04.GainLogs", spec := "gainLogs", inPlace := ["internal/bytealg.IndexByteString", "internal/bytealg.IndexString"], unfollowed := true, recurses := true, named := ["math/bits.overflowError", "unicode/utf8.first", "unicode/utf8.acceptRanges", "internal/bytealg.MaxLen"], apart := false, laid := [("unicode/utf8.acceptRanges", laid_unicode_utf8_acceptRanges), ("unicode/utf8.first", laid_unicode_utf8_first)], narrowed := true }
def GainLogsUptoSaid : Prop := gainLogsUptoRow.holds Tryd.pinned (OpenSpec.upto gainLogsSpec)

/-- 'coxswainlaw04.GainBounds', WHERE WHAT IT READS IS OF BULK AT MOST 1048576: true; the input reads as it did. -/
def gainBoundsUptoRow : OpenClaim := { program := "ytepibfpdkjkdjaadoor", sum := "f9f82ffee96212aca4956f964ee0a8338a0454bebec33d44dc097d4e39bddb60", func := "coxswain/coxswainlaw04.GainBounds", spec := "gainBounds", inPlace := ["internal/bytealg.IndexByteString", "internal/bytealg.IndexString"], unfollowed := true, recurses := true, named := ["math/bits.overflowError", "unicode/utf8.first", "unicode/utf8.acceptRanges", "internal/bytealg.MaxLen"], apart := false, laid := [("unicode/utf8.acceptRanges", laid_unicode_utf8_acceptRanges), ("unicode/utf8.first", laid_unicode_utf8_first)], narrowed := true }
def GainBoundsUptoSaid : Prop := gainBoundsUptoRow.holds Tryd.pinned (OpenSpec.upto gainBoundsSpec)

/-- 'coxswainlaw04.GainOf', WHERE WHAT IT READS IS OF BULK AT MOST 1048576: true; the input reads as it did. -/
def gainOfUptoRow : OpenClaim := { program := "ytepibfpdkjkdjaadoor", sum := "f9f82ffee96212aca4956f964ee0a8338a0454bebec33d44dc097d4e39bddb60", func := "coxswain/coxswainlaw04.GainOf", spec := "gainOf", inPlace := ["internal/bytealg.IndexByteString", "internal/bytealg.IndexString"], unfollowed := true, recurses := true, named := ["math/bits.overflowError", "unicode/utf8.first", "unicode/utf8.acceptRanges", "internal/bytealg.MaxLen"], apart := false, laid := [("unicode/utf8.acceptRanges", laid_unicode_utf8_acceptRanges), ("unicode/utf8.first", laid_unicode_utf8_first)], narrowed := true }
def GainOfUptoSaid : Prop := gainOfUptoRow.holds Tryd.pinned (OpenSpec.upto gainOfSpec)

/-- 'coxswainlaw04.GainSums', WHERE WHAT IT READS IS OF BULK AT MOST 1048576: true; the input reads as it did. -/
def gainSumsUptoRow : OpenClaim := { program := "ytepibfpdkjkdjaadoor", sum := "f9f82ffee96212aca4956f964ee0a8338a0454bebec33d44dc097d4e39bddb60", func := "coxswain/coxswainlaw04.GainSums", spec := "gainSums", inPlace := ["internal/bytealg.IndexByteString", "internal/bytealg.IndexString"], unfollowed := true, recurses := true, named := ["math/bits.overflowError", "unicode/utf8.first", "unicode/utf8.acceptRanges", "internal/bytealg.MaxLen"], apart := false, laid := [("unicode/utf8.acceptRanges", laid_unicode_utf8_acceptRanges), ("unicode/utf8.first", laid_unicode_utf8_first)], narrowed := true }
def GainSumsUptoSaid : Prop := gainSumsUptoRow.holds Tryd.pinned (OpenSpec.upto gainSumsSpec)

/-- 'coxswainlaw04.GainProducts', WHERE WHAT IT READS IS OF BULK AT MOST 1048576: true; the input reads as it did. -/
def gainProductsUptoRow : OpenClaim := { program := "ytepibfpdkjkdjaadoor", sum := "f9f82ffee96212aca4956f964ee0a8338a0454bebec33d44dc097d4e39bddb60", func := "coxswain/coxswainlaw04.GainProducts", spec := "gainProducts", inPlace := ["internal/bytealg.IndexByteString", "internal/bytealg.IndexString"], unfollowed := true, recurses := true, named := ["math/bits.overflowError", "unicode/utf8.first", "unicode/utf8.acceptRanges", "internal/bytealg.MaxLen"], apart := false, laid := [("unicode/utf8.acceptRanges", laid_unicode_utf8_acceptRanges), ("unicode/utf8.first", laid_unicode_utf8_first)], narrowed := true }
def GainProductsUptoSaid : Prop := gainProductsUptoRow.holds Tryd.pinned (OpenSpec.upto gainProductsSpec)

/-- 'coxswaintop.CoxswainWeights', WHERE WHAT IT READS IS OF BULK AT MOST 1048576: true; the input reads as it did. -/
def coxswainWeightsUptoRow : OpenClaim := { program := "ytepibfpdkjkdjaadoor", sum := "f9f82ffee96212aca4956f964ee0a8338a0454bebec33d44dc097d4e39bddb60", func := "coxswain/coxswaintop.CoxswainWeights", spec := "coxswainWeights", inPlace := ["internal/bytealg.IndexByteString", "internal/bytealg.IndexString"], unfollowed := true, recurses := true, named := ["math/bits.overflowError", "unicode/utf8.first", "unicode/utf8.acceptRanges", "internal/bytealg.MaxLen"], apart := false, laid := [("unicode/utf8.acceptRanges", laid_unicode_utf8_acceptRanges), ("unicode/utf8.first", laid_unicode_utf8_first)], narrowed := true }
def CoxswainWeightsUptoSaid : Prop := coxswainWeightsUptoRow.holds Tryd.pinned (OpenSpec.upto coxswainWeightsSpec)

end Rows
end Go.Proofs.YtepibfpdkjkdjaaDoor
