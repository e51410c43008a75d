/-
  NARROWER THAN 'FOR EVERY INPUT', by the rows' own cells (each row's printed sentence says how): DigestIs: laid · DigestHex: laid · DigestLong: laid · DigestParts: laid · HeaderBack: laid · HeaderReads: laid · HeaderKeys: laid · HeaderShares: laid · HeaderUnlike: laid · CertBack: laid · CertReads: laid · CertUnlike: laid · TipsetOrder: laid · TipsetParts: laid · CoxswainFields: laid · CoxswainKeys: laid.
  DERIVED. THE GIVEN ROWS OF THIS SEAT. 16 by the template 'for every input the law returns true; each argument reads behind the call as it read before'; 0 by the template 'total and deterministic' (their statements: YtkejidmomnmdbaaDoorTotals.lean).
  GIVEN WITH THE SEED: the statements are not yours to turn. If you find one false, say at which input.
  Laid BY PROGRAM, IN A SANDBOX (cutbox-rows.mjs): the forced cells as the released guide's own fill.sh prints them over the translation 88e379866eb892da… (all of the seat's roots in one cut). By AI agents, Wed Nov 11 2026. No macro, syntax, notation, axiom, sorry.
-/
import Derived.Test.YtkejidmomnmdbaaDoorChecked
import GoSem.PinnedTables
import GoSem.Claim
import GoSem.ClaimJoined
import GoSem.ClaimMapViews
import Derived.JoinedTies
import Derived.KernelRfl
namespace Go.Proofs.YtkejidmomnmdbaaDoor
/- THE CELL 'sum', in the pinned program and in every row, IS THE sha256 OF THE DUMP (.gsa) THAT YtkejidmomnmdbaaDoorProg.lean LOADS. Nothing in Lean hashes anything: it is a label: what it is worth is what the hold of that sum in a sandbox is worth. -/
noncomputable def Tryd.pinned : Pinned := { name := "ytkejidmomnmdbaadoor", sum := "88e379866eb892daf39e41f8e64dbaaa5d2896d204ba4643e7473250a9553bc7", checked := Tryd.checked }
namespace Rows
def none {H : Type} : Left H := { results := [], args := [] }

/- WHAT THE LISTED PACKAGE-LEVEL VARIABLES READ AS WHEN THE CALL BEGINS. Each datum BY PROGRAM (the guide's laid-datum.mjs) off the statement by which the dump's own 'gosem.cut.vars' lays the variable. In a bare row this is a premise. The card (YtkejidmomnmdbaaDoorCards.lean) ties it to the program's text. -/
def laid_coxswain_digest_roundWords {H : Type} : DataW H := .agg [.lit (.int .u32 1116352408), .lit (.int .u32 1899447441), .lit (.int .u32 3049323471), .lit (.int .u32 3921009573), .lit (.int .u32 961987163), .lit (.int .u32 1508970993), .lit (.int .u32 2453635748), .lit (.int .u32 2870763221), .lit (.int .u32 3624381080), .lit (.int .u32 310598401), .lit (.int .u32 607225278), .lit (.int .u32 1426881987), .lit (.int .u32 1925078388), .lit (.int .u32 2162078206), .lit (.int .u32 2614888103), .lit (.int .u32 3248222580), .lit (.int .u32 3835390401), .lit (.int .u32 4022224774), .lit (.int .u32 264347078), .lit (.int .u32 604807628), .lit (.int .u32 770255983), .lit (.int .u32 1249150122), .lit (.int .u32 1555081692), .lit (.int .u32 1996064986), .lit (.int .u32 2554220882), .lit (.int .u32 2821834349), .lit (.int .u32 2952996808), .lit (.int .u32 3210313671), .lit (.int .u32 3336571891), .lit (.int .u32 3584528711), .lit (.int .u32 113926993), .lit (.int .u32 338241895), .lit (.int .u32 666307205), .lit (.int .u32 773529912), .lit (.int .u32 1294757372), .lit (.int .u32 1396182291), .lit (.int .u32 1695183700), .lit (.int .u32 1986661051), .lit (.int .u32 2177026350), .lit (.int .u32 2456956037), .lit (.int .u32 2730485921), .lit (.int .u32 2820302411), .lit (.int .u32 3259730800), .lit (.int .u32 3345764771), .lit (.int .u32 3516065817), .lit (.int .u32 3600352804), .lit (.int .u32 4094571909), .lit (.int .u32 275423344), .lit (.int .u32 430227734), .lit (.int .u32 506948616), .lit (.int .u32 659060556), .lit (.int .u32 883997877), .lit (.int .u32 958139571), .lit (.int .u32 1322822218), .lit (.int .u32 1537002063), .lit (.int .u32 1747873779), .lit (.int .u32 1955562222), .lit (.int .u32 2024104815), .lit (.int .u32 2227730452), .lit (.int .u32 2361852424), .lit (.int .u32 2428436474), .lit (.int .u32 2756734187), .lit (.int .u32 3204031479), .lit (.int .u32 3329325298)]
def laid_unicode_utf8_acceptRanges {H : Type} : DataW H := .agg [.agg [.lit (.int .u8 128), .lit (.int .u8 191)], .agg [.lit (.int .u8 160), .lit (.int .u8 191)], .agg [.lit (.int .u8 128), .lit (.int .u8 159)], .agg [.lit (.int .u8 144), .lit (.int .u8 191)], .agg [.lit (.int .u8 128), .lit (.int .u8 143)], .agg [.lit (.int .u8 0), .lit (.int .u8 0)], .agg [.lit (.int .u8 0), .lit (.int .u8 0)], .agg [.lit (.int .u8 0), .lit (.int .u8 0)], .agg [.lit (.int .u8 0), .lit (.int .u8 0)], .agg [.lit (.int .u8 0), .lit (.int .u8 0)], .agg [.lit (.int .u8 0), .lit (.int .u8 0)], .agg [.lit (.int .u8 0), .lit (.int .u8 0)], .agg [.lit (.int .u8 0), .lit (.int .u8 0)], .agg [.lit (.int .u8 0), .lit (.int .u8 0)], .agg [.lit (.int .u8 0), .lit (.int .u8 0)], .agg [.lit (.int .u8 0), .lit (.int .u8 0)]]
/-- One of Go's own tables, pinned by name: the form's constant. -/
def laid_unicode_utf8_first : DataW Unit := Go.Pinned.utf8First

/-- 'coxswainlaw02.DigestIs': WHATEVER THE INPUT: true; the input reads as it did. -/
def digestIsSpec : ChangeSpec := { name := "digestIs", fn := fun _ => fun
  | [d1, d2] => { results := [.lit (.bool true)], args := [d1, d2] }
  | _ => none }
def digestIsRow : OpenClaim := { program := "ytkejidmomnmdbaadoor", sum := "88e379866eb892daf39e41f8e64dbaaa5d2896d204ba4643e7473250a9553bc7", func := "coxswain/coxswainlaw02.DigestIs", spec := "digestIs", named := ["coxswain/digest.roundWords"], plainKeys := false, apart := false, laid := [("coxswain/digest.roundWords", laid_coxswain_digest_roundWords)] }
def DigestIsSaid : Prop := digestIsRow.holds Tryd.pinned (OpenSpec.ofChange digestIsSpec)

/-- ITS FALSE NEIGHBOUR: 'it returns false'. Refute it at one input. -/
def digestIsWrong : ChangeSpec := { name := "digestIs", fn := fun _ => fun
  | [d1, d2] => { results := [.lit (.bool false)], args := [d1, d2] }
  | _ => none }
def DigestIsWrongFalsely : Prop := digestIsRow.holds Tryd.pinned (OpenSpec.ofChange digestIsWrong)

/-- 'coxswainlaw02.DigestHex': WHATEVER THE INPUT: true; the input reads as it did. -/
def digestHexSpec : ChangeSpec := { name := "digestHex", fn := fun _ => fun
  | [d1, d2] => { results := [.lit (.bool true)], args := [d1, d2] }
  | _ => none }
def digestHexRow : OpenClaim := { program := "ytkejidmomnmdbaadoor", sum := "88e379866eb892daf39e41f8e64dbaaa5d2896d204ba4643e7473250a9553bc7", func := "coxswain/coxswainlaw02.DigestHex", spec := "digestHex", named := ["coxswain/digest.roundWords"], plainKeys := false, apart := false, laid := [("coxswain/digest.roundWords", laid_coxswain_digest_roundWords)] }
def DigestHexSaid : Prop := digestHexRow.holds Tryd.pinned (OpenSpec.ofChange digestHexSpec)

/-- ITS FALSE NEIGHBOUR: 'it returns false'. Refute it at one input. -/
def digestHexWrong : ChangeSpec := { name := "digestHex", fn := fun _ => fun
  | [d1, d2] => { results := [.lit (.bool false)], args := [d1, d2] }
  | _ => none }
def DigestHexWrongFalsely : Prop := digestHexRow.holds Tryd.pinned (OpenSpec.ofChange digestHexWrong)

/-- 'coxswainlaw02.DigestLong': WHATEVER THE INPUT: true; the input reads as it did. -/
def digestLongSpec : ChangeSpec := { name := "digestLong", fn := fun _ => fun
  | [d1, d2] => { results := [.lit (.bool true)], args := [d1, d2] }
  | _ => none }
def digestLongRow : OpenClaim := { program := "ytkejidmomnmdbaadoor", sum := "88e379866eb892daf39e41f8e64dbaaa5d2896d204ba4643e7473250a9553bc7", func := "coxswain/coxswainlaw02.DigestLong", spec := "digestLong", named := ["coxswain/digest.roundWords"], plainKeys := false, apart := false, laid := [("coxswain/digest.roundWords", laid_coxswain_digest_roundWords)] }
def DigestLongSaid : Prop := digestLongRow.holds Tryd.pinned (OpenSpec.ofChange digestLongSpec)

/-- ITS FALSE NEIGHBOUR: 'it returns false'. Refute it at one input. -/
def digestLongWrong : ChangeSpec := { name := "digestLong", fn := fun _ => fun
  | [d1, d2] => { results := [.lit (.bool false)], args := [d1, d2] }
  | _ => none }
def DigestLongWrongFalsely : Prop := digestLongRow.holds Tryd.pinned (OpenSpec.ofChange digestLongWrong)

/-- 'coxswainlaw02.DigestParts': WHATEVER THE INPUT: true; the input reads as it did. -/
def digestPartsSpec : ChangeSpec := { name := "digestParts", fn := fun _ => fun
  | [d] => { results := [.lit (.bool true)], args := [d] }
  | _ => none }
def digestPartsRow : OpenClaim := { program := "ytkejidmomnmdbaadoor", sum := "88e379866eb892daf39e41f8e64dbaaa5d2896d204ba4643e7473250a9553bc7", func := "coxswain/coxswainlaw02.DigestParts", spec := "digestParts", named := ["coxswain/digest.roundWords"], plainKeys := false, apart := false, laid := [("coxswain/digest.roundWords", laid_coxswain_digest_roundWords)] }
def DigestPartsSaid : Prop := digestPartsRow.holds Tryd.pinned (OpenSpec.ofChange digestPartsSpec)

/-- ITS FALSE NEIGHBOUR: 'it returns false'. Refute it at one input. -/
def digestPartsWrong : ChangeSpec := { name := "digestParts", fn := fun _ => fun
  | [d] => { results := [.lit (.bool false)], args := [d] }
  | _ => none }
def DigestPartsWrongFalsely : Prop := digestPartsRow.holds Tryd.pinned (OpenSpec.ofChange digestPartsWrong)

/-- 'coxswainlaw05.HeaderBack': WHATEVER THE INPUT: true; the input reads as it did. -/
def headerBackSpec : ChangeSpec := { name := "headerBack", fn := fun _ => fun
  | [d] => { results := [.lit (.bool true)], args := [d] }
  | _ => none }
def headerBackRow : OpenClaim := { program := "ytkejidmomnmdbaadoor", sum := "88e379866eb892daf39e41f8e64dbaaa5d2896d204ba4643e7473250a9553bc7", func := "coxswain/coxswainlaw05.HeaderBack", spec := "headerBack", inPlace := ["internal/bytealg.Compare"], unfollowed := true, recurses := true, named := ["coxswain/digest.roundWords"], plainKeys := false, apart := false, laid := [("coxswain/digest.roundWords", laid_coxswain_digest_roundWords)] }
def HeaderBackSaid : Prop := headerBackRow.holds Tryd.pinned (OpenSpec.ofChange headerBackSpec)

/-- ITS FALSE NEIGHBOUR: 'it returns false'. Refute it at one input. -/
def headerBackWrong : ChangeSpec := { name := "headerBack", fn := fun _ => fun
  | [d] => { results := [.lit (.bool false)], args := [d] }
  | _ => none }
def HeaderBackWrongFalsely : Prop := headerBackRow.holds Tryd.pinned (OpenSpec.ofChange headerBackWrong)

/-- 'coxswainlaw05.HeaderReads': WHATEVER THE INPUT: true; the input reads as it did. -/
def headerReadsSpec : ChangeSpec := { name := "headerReads", fn := fun _ => fun
  | [d] => { results := [.lit (.bool true)], args := [d] }
  | _ => none }
def headerReadsRow : OpenClaim := { program := "ytkejidmomnmdbaadoor", sum := "88e379866eb892daf39e41f8e64dbaaa5d2896d204ba4643e7473250a9553bc7", func := "coxswain/coxswainlaw05.HeaderReads", spec := "headerReads", inPlace := ["internal/bytealg.Compare"], named := ["coxswain/digest.roundWords"], plainKeys := false, apart := false, laid := [("coxswain/digest.roundWords", laid_coxswain_digest_roundWords)] }
def HeaderReadsSaid : Prop := headerReadsRow.holds Tryd.pinned (OpenSpec.ofChange headerReadsSpec)

/-- ITS FALSE NEIGHBOUR: 'it returns false'. Refute it at one input. -/
def headerReadsWrong : ChangeSpec := { name := "headerReads", fn := fun _ => fun
  | [d] => { results := [.lit (.bool false)], args := [d] }
  | _ => none }
def HeaderReadsWrongFalsely : Prop := headerReadsRow.holds Tryd.pinned (OpenSpec.ofChange headerReadsWrong)

/-- 'coxswainlaw05.HeaderKeys': WHATEVER THE INPUT: true; the input reads as it did. -/
def headerKeysSpec : ChangeSpec := { name := "headerKeys", fn := fun _ => fun
  | [d1, d2] => { results := [.lit (.bool true)], args := [d1, d2] }
  | _ => none }
def headerKeysRow : OpenClaim := { program := "ytkejidmomnmdbaadoor", sum := "88e379866eb892daf39e41f8e64dbaaa5d2896d204ba4643e7473250a9553bc7", func := "coxswain/coxswainlaw05.HeaderKeys", spec := "headerKeys", inPlace := ["internal/bytealg.Compare"], unfollowed := true, recurses := true, named := ["coxswain/digest.roundWords"], plainKeys := false, apart := false, laid := [("coxswain/digest.roundWords", laid_coxswain_digest_roundWords)] }
def HeaderKeysSaid : Prop := headerKeysRow.holds Tryd.pinned (OpenSpec.ofChange headerKeysSpec)

/-- ITS FALSE NEIGHBOUR: 'it returns false'. Refute it at one input. -/
def headerKeysWrong : ChangeSpec := { name := "headerKeys", fn := fun _ => fun
  | [d1, d2] => { results := [.lit (.bool false)], args := [d1, d2] }
  | _ => none }
def HeaderKeysWrongFalsely : Prop := headerKeysRow.holds Tryd.pinned (OpenSpec.ofChange headerKeysWrong)

/-- 'coxswainlaw05.HeaderShares': WHATEVER THE INPUT: true; the input reads as it did. -/
def headerSharesSpec : ChangeSpec := { name := "headerShares", fn := fun _ => fun
  | [d] => { results := [.lit (.bool true)], args := [d] }
  | _ => none }
def headerSharesRow : OpenClaim := { program := "ytkejidmomnmdbaadoor", sum := "88e379866eb892daf39e41f8e64dbaaa5d2896d204ba4643e7473250a9553bc7", func := "coxswain/coxswainlaw05.HeaderShares", spec := "headerShares", inPlace := ["internal/bytealg.Compare"], unfollowed := true, recurses := true, named := ["coxswain/digest.roundWords"], plainKeys := false, apart := false, laid := [("coxswain/digest.roundWords", laid_coxswain_digest_roundWords)] }
def HeaderSharesSaid : Prop := headerSharesRow.holds Tryd.pinned (OpenSpec.ofChange headerSharesSpec)

/-- ITS FALSE NEIGHBOUR: 'it returns false'. Refute it at one input. -/
def headerSharesWrong : ChangeSpec := { name := "headerShares", fn := fun _ => fun
  | [d] => { results := [.lit (.bool false)], args := [d] }
  | _ => none }
def HeaderSharesWrongFalsely : Prop := headerSharesRow.holds Tryd.pinned (OpenSpec.ofChange headerSharesWrong)

/-- 'coxswainlaw05.HeaderUnlike': WHATEVER THE INPUT: true; the input reads as it did. -/
def headerUnlikeSpec : ChangeSpec := { name := "headerUnlike", fn := fun _ => fun
  | [d1, d2] => { results := [.lit (.bool true)], args := [d1, d2] }
  | _ => none }
def headerUnlikeRow : OpenClaim := { program := "ytkejidmomnmdbaadoor", sum := "88e379866eb892daf39e41f8e64dbaaa5d2896d204ba4643e7473250a9553bc7", func := "coxswain/coxswainlaw05.HeaderUnlike", spec := "headerUnlike", inPlace := ["internal/bytealg.Compare"], named := ["coxswain/digest.roundWords"], plainKeys := false, apart := false, laid := [("coxswain/digest.roundWords", laid_coxswain_digest_roundWords)] }
def HeaderUnlikeSaid : Prop := headerUnlikeRow.holds Tryd.pinned (OpenSpec.ofChange headerUnlikeSpec)

/-- ITS FALSE NEIGHBOUR: 'it returns false'. Refute it at one input. -/
def headerUnlikeWrong : ChangeSpec := { name := "headerUnlike", fn := fun _ => fun
  | [d1, d2] => { results := [.lit (.bool false)], args := [d1, d2] }
  | _ => none }
def HeaderUnlikeWrongFalsely : Prop := headerUnlikeRow.holds Tryd.pinned (OpenSpec.ofChange headerUnlikeWrong)

/-- 'coxswainlaw07.CertBack': WHATEVER THE INPUT: true; the input reads as it did. -/
def certBackSpec : ChangeSpec := { name := "certBack", fn := fun _ => fun
  | [d] => { results := [.lit (.bool true)], args := [d] }
  | _ => none }
def certBackRow : OpenClaim := { program := "ytkejidmomnmdbaadoor", sum := "88e379866eb892daf39e41f8e64dbaaa5d2896d204ba4643e7473250a9553bc7", func := "coxswain/coxswainlaw07.CertBack", spec := "certBack", inPlace := ["internal/bytealg.Compare"], named := ["coxswain/digest.roundWords"], plainKeys := false, apart := false, laid := [("coxswain/digest.roundWords", laid_coxswain_digest_roundWords)] }
def CertBackSaid : Prop := certBackRow.holds Tryd.pinned (OpenSpec.ofChange certBackSpec)

/-- ITS FALSE NEIGHBOUR: 'it returns false'. Refute it at one input. -/
def certBackWrong : ChangeSpec := { name := "certBack", fn := fun _ => fun
  | [d] => { results := [.lit (.bool false)], args := [d] }
  | _ => none }
def CertBackWrongFalsely : Prop := certBackRow.holds Tryd.pinned (OpenSpec.ofChange certBackWrong)

/-- 'coxswainlaw07.CertReads': WHATEVER THE INPUT: true; the input reads as it did. -/
def certReadsSpec : ChangeSpec := { name := "certReads", fn := fun _ => fun
  | [d] => { results := [.lit (.bool true)], args := [d] }
  | _ => none }
def certReadsRow : OpenClaim := { program := "ytkejidmomnmdbaadoor", sum := "88e379866eb892daf39e41f8e64dbaaa5d2896d204ba4643e7473250a9553bc7", func := "coxswain/coxswainlaw07.CertReads", spec := "certReads", inPlace := ["internal/bytealg.Compare"], named := ["coxswain/digest.roundWords"], plainKeys := false, apart := false, laid := [("coxswain/digest.roundWords", laid_coxswain_digest_roundWords)] }
def CertReadsSaid : Prop := certReadsRow.holds Tryd.pinned (OpenSpec.ofChange certReadsSpec)

/-- ITS FALSE NEIGHBOUR: 'it returns false'. Refute it at one input. -/
def certReadsWrong : ChangeSpec := { name := "certReads", fn := fun _ => fun
  | [d] => { results := [.lit (.bool false)], args := [d] }
  | _ => none }
def CertReadsWrongFalsely : Prop := certReadsRow.holds Tryd.pinned (OpenSpec.ofChange certReadsWrong)

/-- 'coxswainlaw07.CertUnlike': WHATEVER THE INPUT: true; the input reads as it did. -/
def certUnlikeSpec : ChangeSpec := { name := "certUnlike", fn := fun _ => fun
  | [d1, d2] => { results := [.lit (.bool true)], args := [d1, d2] }
  | _ => none }
def certUnlikeRow : OpenClaim := { program := "ytkejidmomnmdbaadoor", sum := "88e379866eb892daf39e41f8e64dbaaa5d2896d204ba4643e7473250a9553bc7", func := "coxswain/coxswainlaw07.CertUnlike", spec := "certUnlike", inPlace := ["internal/bytealg.Compare"], named := ["coxswain/digest.roundWords"], plainKeys := false, apart := false, laid := [("coxswain/digest.roundWords", laid_coxswain_digest_roundWords)] }
def CertUnlikeSaid : Prop := certUnlikeRow.holds Tryd.pinned (OpenSpec.ofChange certUnlikeSpec)

/-- ITS FALSE NEIGHBOUR: 'it returns false'. Refute it at one input. -/
def certUnlikeWrong : ChangeSpec := { name := "certUnlike", fn := fun _ => fun
  | [d1, d2] => { results := [.lit (.bool false)], args := [d1, d2] }
  | _ => none }
def CertUnlikeWrongFalsely : Prop := certUnlikeRow.holds Tryd.pinned (OpenSpec.ofChange certUnlikeWrong)

/-- 'coxswainlaw08.TipsetOrder': WHATEVER THE INPUT: true; the input reads as it did. -/
def tipsetOrderSpec : ChangeSpec := { name := "tipsetOrder", fn := fun _ => fun
  | [d1, d2] => { results := [.lit (.bool true)], args := [d1, d2] }
  | _ => none }
def tipsetOrderRow : OpenClaim := { program := "ytkejidmomnmdbaadoor", sum := "88e379866eb892daf39e41f8e64dbaaa5d2896d204ba4643e7473250a9553bc7", func := "coxswain/coxswainlaw08.TipsetOrder", spec := "tipsetOrder", inPlace := ["internal/bytealg.Compare", "internal/bytealg.abigen_runtime_cmpstring"], unfollowed := true, recurses := true, named := ["coxswain/digest.roundWords"], plainKeys := false, apart := false, laid := [("coxswain/digest.roundWords", laid_coxswain_digest_roundWords)] }
def TipsetOrderSaid : Prop := tipsetOrderRow.holds Tryd.pinned (OpenSpec.ofChange tipsetOrderSpec)

/-- ITS FALSE NEIGHBOUR: 'it returns false'. Refute it at one input. -/
def tipsetOrderWrong : ChangeSpec := { name := "tipsetOrder", fn := fun _ => fun
  | [d1, d2] => { results := [.lit (.bool false)], args := [d1, d2] }
  | _ => none }
def TipsetOrderWrongFalsely : Prop := tipsetOrderRow.holds Tryd.pinned (OpenSpec.ofChange tipsetOrderWrong)

/-- 'coxswainlaw08.TipsetParts': WHATEVER THE INPUT: true; the input reads as it did. -/
def tipsetPartsSpec : ChangeSpec := { name := "tipsetParts", fn := fun _ => fun
  | [d] => { results := [.lit (.bool true)], args := [d] }
  | _ => none }
def tipsetPartsRow : OpenClaim := { program := "ytkejidmomnmdbaadoor", sum := "88e379866eb892daf39e41f8e64dbaaa5d2896d204ba4643e7473250a9553bc7", func := "coxswain/coxswainlaw08.TipsetParts", spec := "tipsetParts", inPlace := ["internal/bytealg.Compare"], unfollowed := true, recurses := true, named := ["coxswain/digest.roundWords"], plainKeys := false, apart := false, laid := [("coxswain/digest.roundWords", laid_coxswain_digest_roundWords)] }
def TipsetPartsSaid : Prop := tipsetPartsRow.holds Tryd.pinned (OpenSpec.ofChange tipsetPartsSpec)

/-- ITS FALSE NEIGHBOUR: 'it returns false'. Refute it at one input. -/
def tipsetPartsWrong : ChangeSpec := { name := "tipsetParts", fn := fun _ => fun
  | [d] => { results := [.lit (.bool false)], args := [d] }
  | _ => none }
def TipsetPartsWrongFalsely : Prop := tipsetPartsRow.holds Tryd.pinned (OpenSpec.ofChange tipsetPartsWrong)

/-- 'coxswaintop.CoxswainFields': WHATEVER THE INPUT: true; the input reads as it did. -/
def coxswainFieldsSpec : ChangeSpec := { name := "coxswainFields", fn := fun _ => fun
  | [d1, d2] => { results := [.lit (.bool true)], args := [d1, d2] }
  | _ => none }
def coxswainFieldsRow : OpenClaim := { program := "ytkejidmomnmdbaadoor", sum := "88e379866eb892daf39e41f8e64dbaaa5d2896d204ba4643e7473250a9553bc7", func := "coxswain/coxswaintop.CoxswainFields", spec := "coxswainFields", inPlace := ["internal/bytealg.IndexByteString", "internal/bytealg.IndexString"], unfollowed := true, recurses := true, named := ["coxswain/digest.roundWords", "unicode/utf8.first", "unicode/utf8.acceptRanges", "internal/bytealg.MaxLen"], plainKeys := false, apart := false, laid := [("coxswain/digest.roundWords", laid_coxswain_digest_roundWords), ("unicode/utf8.acceptRanges", laid_unicode_utf8_acceptRanges), ("unicode/utf8.first", laid_unicode_utf8_first)] }
def CoxswainFieldsSaid : Prop := coxswainFieldsRow.holds Tryd.pinned (OpenSpec.ofChange coxswainFieldsSpec)

/-- ITS FALSE NEIGHBOUR: 'it returns false'. Refute it at one input. -/
def coxswainFieldsWrong : ChangeSpec := { name := "coxswainFields", fn := fun _ => fun
  | [d1, d2] => { results := [.lit (.bool false)], args := [d1, d2] }
  | _ => none }
def CoxswainFieldsWrongFalsely : Prop := coxswainFieldsRow.holds Tryd.pinned (OpenSpec.ofChange coxswainFieldsWrong)

/-- 'coxswaintop.CoxswainKeys': WHATEVER THE INPUT: true; the input reads as it did. -/
def coxswainKeysSpec : ChangeSpec := { name := "coxswainKeys", fn := fun _ => fun
  | [d] => { results := [.lit (.bool true)], args := [d] }
  | _ => none }
def coxswainKeysRow : OpenClaim := { program := "ytkejidmomnmdbaadoor", sum := "88e379866eb892daf39e41f8e64dbaaa5d2896d204ba4643e7473250a9553bc7", func := "coxswain/coxswaintop.CoxswainKeys", spec := "coxswainKeys", inPlace := ["internal/bytealg.Compare"], unfollowed := true, recurses := true, named := ["coxswain/digest.roundWords"], plainKeys := false, apart := false, laid := [("coxswain/digest.roundWords", laid_coxswain_digest_roundWords)] }
def CoxswainKeysSaid : Prop := coxswainKeysRow.holds Tryd.pinned (OpenSpec.ofChange coxswainKeysSpec)

/-- ITS FALSE NEIGHBOUR: 'it returns false'. Refute it at one input. -/
def coxswainKeysWrong : ChangeSpec := { name := "coxswainKeys", fn := fun _ => fun
  | [d] => { results := [.lit (.bool false)], args := [d] }
  | _ => none }
def CoxswainKeysWrongFalsely : Prop := coxswainKeysRow.holds Tryd.pinned (OpenSpec.ofChange coxswainKeysWrong)

/- THE SECOND FORM. 'bulk': how many values and letters a reading holds, each counted each time it is reached (what is shared counts as often as it is met; a slice's spare places count too). A statement '..UptoSaid' is the law's where the arguments, and the package variables that the reading takes, are together of bulk at most 1048576: NARROWER than '..Said'. Prove '..Said' where nothing that the law and all that it calls make is longer than what came in: it says more and counts as full. Else prove '..UptoSaid'. A law counts once. -/
mutual
def uptoBulk {H : Type} : DataW H → Nat
  | .lit (.string bytes) => bytes.length + 1
  | .lit _ => 1
  | .nil => 1
  | .ptr d => uptoBulk d + 1
  | .slice elems spare => uptoBulkAll elems + uptoBulkAll spare + 1
  | .agg parts => uptoBulkAll parts + 1
  | .iface _ d => uptoBulk d + 1
  | .map entries => uptoBulkEntries entries + 1
  | .held _ => 1
def uptoBulkAll {H : Type} : List (DataW H) → Nat
  | [] => 0
  | d :: r => uptoBulk d + uptoBulkAll r
def uptoBulkEntries {H : Type} : List (Lit × DataW H) → Nat
  | [] => 0
  | x :: r => uptoBulkEntry x + uptoBulkEntries r
def uptoBulkEntry {H : Type} : Lit × DataW H → Nat
  | (.string bytes, d) => bytes.length + uptoBulk d + 1
  | (_, d) => uptoBulk d + 1
 end
def uptoSmall : (H : Type) → List (DataW H) → Bool := fun _ ds => decide (uptoBulkAll ds ≤ 1048576)
def OpenSpec.upto (s : _root_.Go.ChangeSpec) : _root_.Go.OpenSpec := { _root_.Go.OpenSpec.ofChange s with cond := some uptoSmall }

/-- 'coxswainlaw02.DigestIs', WHERE WHAT IT READS IS OF BULK AT MOST 1048576: true; the input reads as it did. -/
def digestIsUptoRow : OpenClaim := { program := "ytkejidmomnmdbaadoor", sum := "88e379866eb892daf39e41f8e64dbaaa5d2896d204ba4643e7473250a9553bc7", func := "coxswain/coxswainlaw02.DigestIs", spec := "digestIs", named := ["coxswain/digest.roundWords"], plainKeys := false, apart := false, laid := [("coxswain/digest.roundWords", laid_coxswain_digest_roundWords)], narrowed := true }
def DigestIsUptoSaid : Prop := digestIsUptoRow.holds Tryd.pinned (OpenSpec.upto digestIsSpec)

/-- 'coxswainlaw02.DigestHex', WHERE WHAT IT READS IS OF BULK AT MOST 1048576: true; the input reads as it did. -/
def digestHexUptoRow : OpenClaim := { program := "ytkejidmomnmdbaadoor", sum := "88e379866eb892daf39e41f8e64dbaaa5d2896d204ba4643e7473250a9553bc7", func := "coxswain/coxswainlaw02.DigestHex", spec := "digestHex", named := ["coxswain/digest.roundWords"], plainKeys := false, apart := false, laid := [("coxswain/digest.roundWords", laid_coxswain_digest_roundWords)], narrowed := true }
def DigestHexUptoSaid : Prop := digestHexUptoRow.holds Tryd.pinned (OpenSpec.upto digestHexSpec)

/-- 'coxswainlaw02.DigestLong', WHERE WHAT IT READS IS OF BULK AT MOST 1048576: true; the input reads as it did. -/
def digestLongUptoRow : OpenClaim := { program := "ytkejidmomnmdbaadoor", sum := "88e379866eb892daf39e41f8e64dbaaa5d2896d204ba4643e7473250a9553bc7", func := "coxswain/coxswainlaw02.DigestLong", spec := "digestLong", named := ["coxswain/digest.roundWords"], plainKeys := false, apart := false, laid := [("coxswain/digest.roundWords", laid_coxswain_digest_roundWords)], narrowed := true }
def DigestLongUptoSaid : Prop := digestLongUptoRow.holds Tryd.pinned (OpenSpec.upto digestLongSpec)

/-- 'coxswainlaw02.DigestParts', WHERE WHAT IT READS IS OF BULK AT MOST 1048576: true; the input reads as it did. -/
def digestPartsUptoRow : OpenClaim := { program := "ytkejidmomnmdbaadoor", sum := "88e379866eb892daf39e41f8e64dbaaa5d2896d204ba4643e7473250a9553bc7", func := "coxswain/coxswainlaw02.DigestParts", spec := "digestParts", named := ["coxswain/digest.roundWords"], plainKeys := false, apart := false, laid := [("coxswain/digest.roundWords", laid_coxswain_digest_roundWords)], narrowed := true }
def DigestPartsUptoSaid : Prop := digestPartsUptoRow.holds Tryd.pinned (OpenSpec.upto digestPartsSpec)

/-- 'coxswainlaw05.HeaderBack', WHERE WHAT IT READS IS OF BULK AT MOST 1048576: true; the input reads as it did. -/
def headerBackUptoRow : OpenClaim := { program := "ytkejidmomnmdbaadoor", sum := "88e379866eb892daf39e41f8e64dbaaa5d2896d204ba4643e7473250a9553bc7", func := "coxswain/coxswainlaw05.HeaderBack", spec := "headerBack", inPlace := ["internal/bytealg.Compare"], unfollowed := true, recurses := true, named := ["coxswain/digest.roundWords"], plainKeys := false, apart := false, laid := [("coxswain/digest.roundWords", laid_coxswain_digest_roundWords)], narrowed := true }
def HeaderBackUptoSaid : Prop := headerBackUptoRow.holds Tryd.pinned (OpenSpec.upto headerBackSpec)

/-- 'coxswainlaw05.HeaderReads', WHERE WHAT IT READS IS OF BULK AT MOST 1048576: true; the input reads as it did. -/
def headerReadsUptoRow : OpenClaim := { program := "ytkejidmomnmdbaadoor", sum := "88e379866eb892daf39e41f8e64dbaaa5d2896d204ba4643e7473250a9553bc7", func := "coxswain/coxswainlaw05.HeaderReads", spec := "headerReads", inPlace := ["internal/bytealg.Compare"], named := ["coxswain/digest.roundWords"], plainKeys := false, apart := false, laid := [("coxswain/digest.roundWords", laid_coxswain_digest_roundWords)], narrowed := true }
def HeaderReadsUptoSaid : Prop := headerReadsUptoRow.holds Tryd.pinned (OpenSpec.upto headerReadsSpec)

/-- 'coxswainlaw05.HeaderKeys', WHERE WHAT IT READS IS OF BULK AT MOST 1048576: true; the input reads as it did. -/
def headerKeysUptoRow : OpenClaim := { program := "ytkejidmomnmdbaadoor", sum := "88e379866eb892daf39e41f8e64dbaaa5d2896d204ba4643e7473250a9553bc7", func := "coxswain/coxswainlaw05.HeaderKeys", spec := "headerKeys", inPlace := ["internal/bytealg.Compare"], unfollowed := true, recurses := true, named := ["coxswain/digest.roundWords"], plainKeys := false, apart := false, laid := [("coxswain/digest.roundWords", laid_coxswain_digest_roundWords)], narrowed := true }
def HeaderKeysUptoSaid : Prop := headerKeysUptoRow.holds Tryd.pinned (OpenSpec.upto headerKeysSpec)

/-- 'coxswainlaw05.HeaderShares', WHERE WHAT IT READS IS OF BULK AT MOST 1048576: true; the input reads as it did. -/
def headerSharesUptoRow : OpenClaim := { program := "ytkejidmomnmdbaadoor", sum := "88e379866eb892daf39e41f8e64dbaaa5d2896d204ba4643e7473250a9553bc7", func := "coxswain/coxswainlaw05.HeaderShares", spec := "headerShares", inPlace := ["internal/bytealg.Compare"], unfollowed := true, recurses := true, named := ["coxswain/digest.roundWords"], plainKeys := false, apart := false, laid := [("coxswain/digest.roundWords", laid_coxswain_digest_roundWords)], narrowed := true }
def HeaderSharesUptoSaid : Prop := headerSharesUptoRow.holds Tryd.pinned (OpenSpec.upto headerSharesSpec)

/-- 'coxswainlaw05.HeaderUnlike', WHERE WHAT IT READS IS OF BULK AT MOST 1048576: true; the input reads as it did. -/
def headerUnlikeUptoRow : OpenClaim := { program := "ytkejidmomnmdbaadoor", sum := "88e379866eb892daf39e41f8e64dbaaa5d2896d204ba4643e7473250a9553bc7", func := "coxswain/coxswainlaw05.HeaderUnlike", spec := "headerUnlike", inPlace := ["internal/bytealg.Compare"], named := ["coxswain/digest.roundWords"], plainKeys := false, apart := false, laid := [("coxswain/digest.roundWords", laid_coxswain_digest_roundWords)], narrowed := true }
def HeaderUnlikeUptoSaid : Prop := headerUnlikeUptoRow.holds Tryd.pinned (OpenSpec.upto headerUnlikeSpec)

/-- 'coxswainlaw07.CertBack', WHERE WHAT IT READS IS OF BULK AT MOST 1048576: true; the input reads as it did. -/
def certBackUptoRow : OpenClaim := { program := "ytkejidmomnmdbaadoor", sum := "88e379866eb892daf39e41f8e64dbaaa5d2896d204ba4643e7473250a9553bc7", func := "coxswain/coxswainlaw07.CertBack", spec := "certBack", inPlace := ["internal/bytealg.Compare"], named := ["coxswain/digest.roundWords"], plainKeys := false, apart := false, laid := [("coxswain/digest.roundWords", laid_coxswain_digest_roundWords)], narrowed := true }
def CertBackUptoSaid : Prop := certBackUptoRow.holds Tryd.pinned (OpenSpec.upto certBackSpec)

/-- 'coxswainlaw07.CertReads', WHERE WHAT IT READS IS OF BULK AT MOST 1048576: true; the input reads as it did. -/
def certReadsUptoRow : OpenClaim := { program := "ytkejidmomnmdbaadoor", sum := "88e379866eb892daf39e41f8e64dbaaa5d2896d204ba4643e7473250a9553bc7", func := "coxswain/coxswainlaw07.CertReads", spec := "certReads", inPlace := ["internal/bytealg.Compare"], named := ["coxswain/digest.roundWords"], plainKeys := false, apart := false, laid := [("coxswain/digest.roundWords", laid_coxswain_digest_roundWords)], narrowed := true }
def CertReadsUptoSaid : Prop := certReadsUptoRow.holds Tryd.pinned (OpenSpec.upto certReadsSpec)

/-- 'coxswainlaw07.CertUnlike', WHERE WHAT IT READS IS OF BULK AT MOST 1048576: true; the input reads as it did. -/
def certUnlikeUptoRow : OpenClaim := { program := "ytkejidmomnmdbaadoor", sum := "88e379866eb892daf39e41f8e64dbaaa5d2896d204ba4643e7473250a9553bc7", func := "coxswain/coxswainlaw07.CertUnlike", spec := "certUnlike", inPlace := ["internal/bytealg.Compare"], named := ["coxswain/digest.roundWords"], plainKeys := false, apart := false, laid := [("coxswain/digest.roundWords", laid_coxswain_digest_roundWords)], narrowed := true }
def CertUnlikeUptoSaid : Prop := certUnlikeUptoRow.holds Tryd.pinned (OpenSpec.upto certUnlikeSpec)

/-- 'coxswainlaw08.TipsetOrder', WHERE WHAT IT READS IS OF BULK AT MOST 1048576: true; the input reads as it did. -/
def tipsetOrderUptoRow : OpenClaim := { program := "ytkejidmomnmdbaadoor", sum := "88e379866eb892daf39e41f8e64dbaaa5d2896d204ba4643e7473250a9553bc7", func := "coxswain/coxswainlaw08.TipsetOrder", spec := "tipsetOrder", inPlace := ["internal/bytealg.Compare", "internal/bytealg.abigen_runtime_cmpstring"], unfollowed := true, recurses := true, named := ["coxswain/digest.roundWords"], plainKeys := false, apart := false, laid := [("coxswain/digest.roundWords", laid_coxswain_digest_roundWords)], narrowed := true }
def TipsetOrderUptoSaid : Prop := tipsetOrderUptoRow.holds Tryd.pinned (OpenSpec.upto tipsetOrderSpec)

/-- 'coxswainlaw08.TipsetParts', WHERE WHAT IT READS IS OF BULK AT MOST 1048576: true; the input reads as it did. -/
def tipsetPartsUptoRow : OpenClaim := { program := "ytkejidmomnmdbaadoor", sum := "88e379866eb892daf39e41f8e64dbaaa5d2896d204ba4643e7473250a9553bc7", func := "coxswain/coxswainlaw08.TipsetParts", spec := "tipsetParts", inPlace := ["internal/bytealg.Compare"], unfollowed := true, recurses := true, named := ["coxswain/digest.roundWords"], plainKeys := false, apart := false, laid := [("coxswain/digest.roundWords", laid_coxswain_digest_roundWords)], narrowed := true }
def TipsetPartsUptoSaid : Prop := tipsetPartsUptoRow.holds Tryd.pinned (OpenSpec.upto tipsetPartsSpec)

/-- 'coxswaintop.CoxswainFields', WHERE WHAT IT READS IS OF BULK AT MOST 1048576: true; the input reads as it did. -/
def coxswainFieldsUptoRow : OpenClaim := { program := "ytkejidmomnmdbaadoor", sum := "88e379866eb892daf39e41f8e64dbaaa5d2896d204ba4643e7473250a9553bc7", func := "coxswain/coxswaintop.CoxswainFields", spec := "coxswainFields", inPlace := ["internal/bytealg.IndexByteString", "internal/bytealg.IndexString"], unfollowed := true, recurses := true, named := ["coxswain/digest.roundWords", "unicode/utf8.first", "unicode/utf8.acceptRanges", "internal/bytealg.MaxLen"], plainKeys := false, apart := false, laid := [("coxswain/digest.roundWords", laid_coxswain_digest_roundWords), ("unicode/utf8.acceptRanges", laid_unicode_utf8_acceptRanges), ("unicode/utf8.first", laid_unicode_utf8_first)], narrowed := true }
def CoxswainFieldsUptoSaid : Prop := coxswainFieldsUptoRow.holds Tryd.pinned (OpenSpec.upto coxswainFieldsSpec)

/-- 'coxswaintop.CoxswainKeys', WHERE WHAT IT READS IS OF BULK AT MOST 1048576: true; the input reads as it did. -/
def coxswainKeysUptoRow : OpenClaim := { program := "ytkejidmomnmdbaadoor", sum := "88e379866eb892daf39e41f8e64dbaaa5d2896d204ba4643e7473250a9553bc7", func := "coxswain/coxswaintop.CoxswainKeys", spec := "coxswainKeys", inPlace := ["internal/bytealg.Compare"], unfollowed := true, recurses := true, named := ["coxswain/digest.roundWords"], plainKeys := false, apart := false, laid := [("coxswain/digest.roundWords", laid_coxswain_digest_roundWords)], narrowed := true }
def CoxswainKeysUptoSaid : Prop := coxswainKeysUptoRow.holds Tryd.pinned (OpenSpec.upto coxswainKeysSpec)

end Rows
end Go.Proofs.YtkejidmomnmdbaaDoor
