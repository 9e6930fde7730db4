/-
  NARROWER THAN 'FOR EVERY INPUT', by the rows' own cells (each row's printed sentence says how): ShaHexes: laid · ShaHashes: laid · ShaRoots: laid · HmacTags: laid · HmacEquals: laid · HmacVerifies: laid · HmacAccepts: laid · HmacParts: laid · HmacKeys: laid · HmacNone: laid · HmacKnown: laid.
  DERIVED. THE GIVEN ROWS OF THIS SEAT. 11 by the template 'for every input the law returns true; each argument reads behind the call as it read before'; 0 by the template 'total and deterministic' (their statements: YtgpgnfdbjljljaaDoorTotals.lean).
  GIVEN WITH THE SEED: the statements are not yours to turn. If you find one false, say at which input.
  Laid BY PROGRAM, IN A SANDBOX (cutbox-rows.mjs): the forced cells as the released guide's own fill.sh prints them over the translation 78052f5243e5a95b… (all of the seat's roots in one cut). By AI agents, Wed Nov 11 2026. No macro, syntax, notation, axiom, sorry.
-/
import Derived.Test.YtgpgnfdbjljljaaDoorChecked
import GoSem.Claim
import GoSem.ClaimJoined
import GoSem.ClaimMapViews
import Derived.JoinedTies
import Derived.KernelRfl
namespace Go.Proofs.YtgpgnfdbjljljaaDoor
/- THE CELL 'sum', in the pinned program and in every row, IS THE sha256 OF THE DUMP (.gsa) THAT YtgpgnfdbjljljaaDoorProg.lean LOADS. Nothing in Lean hashes anything: it is a label: what it is worth is what the hold of that sum in a sandbox is worth. -/
noncomputable def Tryd.pinned : Pinned := { name := "ytgpgnfdbjljljaadoor", sum := "78052f5243e5a95b3e87c33e31c6770daf9677b9deb0f56b2db8da446821bc19", checked := Tryd.checked }
namespace Rows
def none {H : Type} : Left H := { results := [], args := [] }

/- WHAT THE LISTED PACKAGE-LEVEL VARIABLES READ AS WHEN THE CALL BEGINS. Each datum BY PROGRAM (the guide's laid-datum.mjs) off the statement by which the dump's own 'gosem.cut.vars' lays the variable. In a bare row this is a premise. The card (YtgpgnfdbjljljaaDoorCards.lean) ties it to the program's text. -/
def laid_groundling_sha_start {H : Type} : DataW H := .agg [.lit (.int .u32 1779033703), .lit (.int .u32 3144134277), .lit (.int .u32 1013904242), .lit (.int .u32 2773480762), .lit (.int .u32 1359893119), .lit (.int .u32 2600822924), .lit (.int .u32 528734635), .lit (.int .u32 1541459225)]
def laid_groundling_sha_constants {H : Type} : DataW H := .agg [.lit (.int .u32 1116352408), .lit (.int .u32 1899447441), .lit (.int .u32 3049323471), .lit (.int .u32 3921009573), .lit (.int .u32 961987163), .lit (.int .u32 1508970993), .lit (.int .u32 2453635748), .lit (.int .u32 2870763221), .lit (.int .u32 3624381080), .lit (.int .u32 310598401), .lit (.int .u32 607225278), .lit (.int .u32 1426881987), .lit (.int .u32 1925078388), .lit (.int .u32 2162078206), .lit (.int .u32 2614888103), .lit (.int .u32 3248222580), .lit (.int .u32 3835390401), .lit (.int .u32 4022224774), .lit (.int .u32 264347078), .lit (.int .u32 604807628), .lit (.int .u32 770255983), .lit (.int .u32 1249150122), .lit (.int .u32 1555081692), .lit (.int .u32 1996064986), .lit (.int .u32 2554220882), .lit (.int .u32 2821834349), .lit (.int .u32 2952996808), .lit (.int .u32 3210313671), .lit (.int .u32 3336571891), .lit (.int .u32 3584528711), .lit (.int .u32 113926993), .lit (.int .u32 338241895), .lit (.int .u32 666307205), .lit (.int .u32 773529912), .lit (.int .u32 1294757372), .lit (.int .u32 1396182291), .lit (.int .u32 1695183700), .lit (.int .u32 1986661051), .lit (.int .u32 2177026350), .lit (.int .u32 2456956037), .lit (.int .u32 2730485921), .lit (.int .u32 2820302411), .lit (.int .u32 3259730800), .lit (.int .u32 3345764771), .lit (.int .u32 3516065817), .lit (.int .u32 3600352804), .lit (.int .u32 4094571909), .lit (.int .u32 275423344), .lit (.int .u32 430227734), .lit (.int .u32 506948616), .lit (.int .u32 659060556), .lit (.int .u32 883997877), .lit (.int .u32 958139571), .lit (.int .u32 1322822218), .lit (.int .u32 1537002063), .lit (.int .u32 1747873779), .lit (.int .u32 1955562222), .lit (.int .u32 2024104815), .lit (.int .u32 2227730452), .lit (.int .u32 2361852424), .lit (.int .u32 2428436474), .lit (.int .u32 2756734187), .lit (.int .u32 3204031479), .lit (.int .u32 3329325298)]

/-- 'groundlinglaw03.ShaHexes': WHATEVER THE INPUT: true; the input reads as it did. -/
def shaHexesSpec : ChangeSpec := { name := "shaHexes", fn := fun _ => fun
  | [d1, d2] => { results := [.lit (.bool true)], args := [d1, d2] }
  | _ => none }
def shaHexesRow : OpenClaim := { program := "ytgpgnfdbjljljaadoor", sum := "78052f5243e5a95b3e87c33e31c6770daf9677b9deb0f56b2db8da446821bc19", func := "groundling/groundlinglaw03.ShaHexes", spec := "shaHexes", inPlace := ["internal/bytealg.IndexByteString"], unfollowed := true, recurses := true, named := ["groundling/sha.start", "groundling/sha.constants"], apart := false, laid := [("groundling/sha.start", laid_groundling_sha_start), ("groundling/sha.constants", laid_groundling_sha_constants)] }
def ShaHexesSaid : Prop := shaHexesRow.holds Tryd.pinned (OpenSpec.ofChange shaHexesSpec)

/-- ITS FALSE NEIGHBOUR: 'it returns false'. Refute it at one input. -/
def shaHexesWrong : ChangeSpec := { name := "shaHexes", fn := fun _ => fun
  | [d1, d2] => { results := [.lit (.bool false)], args := [d1, d2] }
  | _ => none }
def ShaHexesWrongFalsely : Prop := shaHexesRow.holds Tryd.pinned (OpenSpec.ofChange shaHexesWrong)

/-- 'groundlinglaw03.ShaHashes': WHATEVER THE INPUT: true; the input reads as it did. -/
def shaHashesSpec : ChangeSpec := { name := "shaHashes", fn := fun _ => fun
  | [d] => { results := [.lit (.bool true)], args := [d] }
  | _ => none }
def shaHashesRow : OpenClaim := { program := "ytgpgnfdbjljljaadoor", sum := "78052f5243e5a95b3e87c33e31c6770daf9677b9deb0f56b2db8da446821bc19", func := "groundling/groundlinglaw03.ShaHashes", spec := "shaHashes", unfollowed := true, recurses := true, named := ["groundling/sha.start", "groundling/sha.constants"], apart := false, laid := [("groundling/sha.start", laid_groundling_sha_start), ("groundling/sha.constants", laid_groundling_sha_constants)] }
def ShaHashesSaid : Prop := shaHashesRow.holds Tryd.pinned (OpenSpec.ofChange shaHashesSpec)

/-- ITS FALSE NEIGHBOUR: 'it returns false'. Refute it at one input. -/
def shaHashesWrong : ChangeSpec := { name := "shaHashes", fn := fun _ => fun
  | [d] => { results := [.lit (.bool false)], args := [d] }
  | _ => none }
def ShaHashesWrongFalsely : Prop := shaHashesRow.holds Tryd.pinned (OpenSpec.ofChange shaHashesWrong)

/-- 'groundlinglaw03.ShaRoots': WHATEVER THE INPUT: true; the input reads as it did. -/
def shaRootsSpec : ChangeSpec := { name := "shaRoots", fn := fun _ => fun
  | [d] => { results := [.lit (.bool true)], args := [d] }
  | _ => none }
def shaRootsRow : OpenClaim := { program := "ytgpgnfdbjljljaadoor", sum := "78052f5243e5a95b3e87c33e31c6770daf9677b9deb0f56b2db8da446821bc19", func := "groundling/groundlinglaw03.ShaRoots", spec := "shaRoots", unfollowed := true, recurses := true, named := ["groundling/sha.constants", "groundling/sha.start"], apart := false, laid := [("groundling/sha.start", laid_groundling_sha_start), ("groundling/sha.constants", laid_groundling_sha_constants)] }
def ShaRootsSaid : Prop := shaRootsRow.holds Tryd.pinned (OpenSpec.ofChange shaRootsSpec)

/-- ITS FALSE NEIGHBOUR: 'it returns false'. Refute it at one input. -/
def shaRootsWrong : ChangeSpec := { name := "shaRoots", fn := fun _ => fun
  | [d] => { results := [.lit (.bool false)], args := [d] }
  | _ => none }
def ShaRootsWrongFalsely : Prop := shaRootsRow.holds Tryd.pinned (OpenSpec.ofChange shaRootsWrong)

/-- 'groundlinglaw04.HmacTags': WHATEVER THE INPUT: true; the input reads as it did. -/
def hmacTagsSpec : ChangeSpec := { name := "hmacTags", fn := fun _ => fun
  | [d1, d2] => { results := [.lit (.bool true)], args := [d1, d2] }
  | _ => none }
def hmacTagsRow : OpenClaim := { program := "ytgpgnfdbjljljaadoor", sum := "78052f5243e5a95b3e87c33e31c6770daf9677b9deb0f56b2db8da446821bc19", func := "groundling/groundlinglaw04.HmacTags", spec := "hmacTags", unfollowed := true, recurses := true, named := ["groundling/sha.start", "groundling/sha.constants"], apart := false, laid := [("groundling/sha.start", laid_groundling_sha_start), ("groundling/sha.constants", laid_groundling_sha_constants)] }
def HmacTagsSaid : Prop := hmacTagsRow.holds Tryd.pinned (OpenSpec.ofChange hmacTagsSpec)

/-- ITS FALSE NEIGHBOUR: 'it returns false'. Refute it at one input. -/
def hmacTagsWrong : ChangeSpec := { name := "hmacTags", fn := fun _ => fun
  | [d1, d2] => { results := [.lit (.bool false)], args := [d1, d2] }
  | _ => none }
def HmacTagsWrongFalsely : Prop := hmacTagsRow.holds Tryd.pinned (OpenSpec.ofChange hmacTagsWrong)

/-- 'groundlinglaw04.HmacEquals': WHATEVER THE INPUT: true; the input reads as it did. -/
def hmacEqualsSpec : ChangeSpec := { name := "hmacEquals", fn := fun _ => fun
  | [d1, d2] => { results := [.lit (.bool true)], args := [d1, d2] }
  | _ => none }
def hmacEqualsRow : OpenClaim := { program := "ytgpgnfdbjljljaadoor", sum := "78052f5243e5a95b3e87c33e31c6770daf9677b9deb0f56b2db8da446821bc19", func := "groundling/groundlinglaw04.HmacEquals", spec := "hmacEquals", unfollowed := true, recurses := true, named := ["groundling/sha.start", "groundling/sha.constants"], apart := false, laid := [("groundling/sha.start", laid_groundling_sha_start), ("groundling/sha.constants", laid_groundling_sha_constants)] }
def HmacEqualsSaid : Prop := hmacEqualsRow.holds Tryd.pinned (OpenSpec.ofChange hmacEqualsSpec)

/-- ITS FALSE NEIGHBOUR: 'it returns false'. Refute it at one input. -/
def hmacEqualsWrong : ChangeSpec := { name := "hmacEquals", fn := fun _ => fun
  | [d1, d2] => { results := [.lit (.bool false)], args := [d1, d2] }
  | _ => none }
def HmacEqualsWrongFalsely : Prop := hmacEqualsRow.holds Tryd.pinned (OpenSpec.ofChange hmacEqualsWrong)

/-- 'groundlinglaw04.HmacVerifies': WHATEVER THE INPUT: true; the input reads as it did. -/
def hmacVerifiesSpec : ChangeSpec := { name := "hmacVerifies", fn := fun _ => fun
  | [d1, d2, d3] => { results := [.lit (.bool true)], args := [d1, d2, d3] }
  | _ => none }
def hmacVerifiesRow : OpenClaim := { program := "ytgpgnfdbjljljaadoor", sum := "78052f5243e5a95b3e87c33e31c6770daf9677b9deb0f56b2db8da446821bc19", func := "groundling/groundlinglaw04.HmacVerifies", spec := "hmacVerifies", unfollowed := true, recurses := true, named := ["groundling/sha.start", "groundling/sha.constants"], apart := false, laid := [("groundling/sha.start", laid_groundling_sha_start), ("groundling/sha.constants", laid_groundling_sha_constants)] }
def HmacVerifiesSaid : Prop := hmacVerifiesRow.holds Tryd.pinned (OpenSpec.ofChange hmacVerifiesSpec)

/-- ITS FALSE NEIGHBOUR: 'it returns false'. Refute it at one input. -/
def hmacVerifiesWrong : ChangeSpec := { name := "hmacVerifies", fn := fun _ => fun
  | [d1, d2, d3] => { results := [.lit (.bool false)], args := [d1, d2, d3] }
  | _ => none }
def HmacVerifiesWrongFalsely : Prop := hmacVerifiesRow.holds Tryd.pinned (OpenSpec.ofChange hmacVerifiesWrong)

/-- 'groundlinglaw04.HmacAccepts': WHATEVER THE INPUT: true; the input reads as it did. -/
def hmacAcceptsSpec : ChangeSpec := { name := "hmacAccepts", fn := fun _ => fun
  | [d1, d2, d3] => { results := [.lit (.bool true)], args := [d1, d2, d3] }
  | _ => none }
def hmacAcceptsRow : OpenClaim := { program := "ytgpgnfdbjljljaadoor", sum := "78052f5243e5a95b3e87c33e31c6770daf9677b9deb0f56b2db8da446821bc19", func := "groundling/groundlinglaw04.HmacAccepts", spec := "hmacAccepts", unfollowed := true, recurses := true, named := ["groundling/sha.start", "groundling/sha.constants"], apart := false, laid := [("groundling/sha.start", laid_groundling_sha_start), ("groundling/sha.constants", laid_groundling_sha_constants)] }
def HmacAcceptsSaid : Prop := hmacAcceptsRow.holds Tryd.pinned (OpenSpec.ofChange hmacAcceptsSpec)

/-- ITS FALSE NEIGHBOUR: 'it returns false'. Refute it at one input. -/
def hmacAcceptsWrong : ChangeSpec := { name := "hmacAccepts", fn := fun _ => fun
  | [d1, d2, d3] => { results := [.lit (.bool false)], args := [d1, d2, d3] }
  | _ => none }
def HmacAcceptsWrongFalsely : Prop := hmacAcceptsRow.holds Tryd.pinned (OpenSpec.ofChange hmacAcceptsWrong)

/-- 'groundlinglaw04.HmacParts': WHATEVER THE INPUT: true; the input reads as it did. -/
def hmacPartsSpec : ChangeSpec := { name := "hmacParts", fn := fun _ => fun
  | [d1, d2] => { results := [.lit (.bool true)], args := [d1, d2] }
  | _ => none }
def hmacPartsRow : OpenClaim := { program := "ytgpgnfdbjljljaadoor", sum := "78052f5243e5a95b3e87c33e31c6770daf9677b9deb0f56b2db8da446821bc19", func := "groundling/groundlinglaw04.HmacParts", spec := "hmacParts", unfollowed := true, recurses := true, named := ["groundling/sha.start", "groundling/sha.constants"], apart := false, laid := [("groundling/sha.start", laid_groundling_sha_start), ("groundling/sha.constants", laid_groundling_sha_constants)] }
def HmacPartsSaid : Prop := hmacPartsRow.holds Tryd.pinned (OpenSpec.ofChange hmacPartsSpec)

/-- ITS FALSE NEIGHBOUR: 'it returns false'. Refute it at one input. -/
def hmacPartsWrong : ChangeSpec := { name := "hmacParts", fn := fun _ => fun
  | [d1, d2] => { results := [.lit (.bool false)], args := [d1, d2] }
  | _ => none }
def HmacPartsWrongFalsely : Prop := hmacPartsRow.holds Tryd.pinned (OpenSpec.ofChange hmacPartsWrong)

/-- 'groundlinglaw04.HmacKeys': WHATEVER THE INPUT: true; the input reads as it did. -/
def hmacKeysSpec : ChangeSpec := { name := "hmacKeys", fn := fun _ => fun
  | [d1, d2, d3] => { results := [.lit (.bool true)], args := [d1, d2, d3] }
  | _ => none }
def hmacKeysRow : OpenClaim := { program := "ytgpgnfdbjljljaadoor", sum := "78052f5243e5a95b3e87c33e31c6770daf9677b9deb0f56b2db8da446821bc19", func := "groundling/groundlinglaw04.HmacKeys", spec := "hmacKeys", unfollowed := true, recurses := true, named := ["groundling/sha.start", "groundling/sha.constants"], apart := false, laid := [("groundling/sha.start", laid_groundling_sha_start), ("groundling/sha.constants", laid_groundling_sha_constants)] }
def HmacKeysSaid : Prop := hmacKeysRow.holds Tryd.pinned (OpenSpec.ofChange hmacKeysSpec)

/-- ITS FALSE NEIGHBOUR: 'it returns false'. Refute it at one input. -/
def hmacKeysWrong : ChangeSpec := { name := "hmacKeys", fn := fun _ => fun
  | [d1, d2, d3] => { results := [.lit (.bool false)], args := [d1, d2, d3] }
  | _ => none }
def HmacKeysWrongFalsely : Prop := hmacKeysRow.holds Tryd.pinned (OpenSpec.ofChange hmacKeysWrong)

/-- 'groundlinglaw04.HmacNone': WHATEVER THE INPUT: true; the input reads as it did. -/
def hmacNoneSpec : ChangeSpec := { name := "hmacNone", fn := fun _ => fun
  | [d] => { results := [.lit (.bool true)], args := [d] }
  | _ => none }
def hmacNoneRow : OpenClaim := { program := "ytgpgnfdbjljljaadoor", sum := "78052f5243e5a95b3e87c33e31c6770daf9677b9deb0f56b2db8da446821bc19", func := "groundling/groundlinglaw04.HmacNone", spec := "hmacNone", unfollowed := true, recurses := true, named := ["groundling/sha.constants", "groundling/sha.start"], apart := false, laid := [("groundling/sha.start", laid_groundling_sha_start), ("groundling/sha.constants", laid_groundling_sha_constants)] }
def HmacNoneSaid : Prop := hmacNoneRow.holds Tryd.pinned (OpenSpec.ofChange hmacNoneSpec)

/-- ITS FALSE NEIGHBOUR: 'it returns false'. Refute it at one input. -/
def hmacNoneWrong : ChangeSpec := { name := "hmacNone", fn := fun _ => fun
  | [d] => { results := [.lit (.bool false)], args := [d] }
  | _ => none }
def HmacNoneWrongFalsely : Prop := hmacNoneRow.holds Tryd.pinned (OpenSpec.ofChange hmacNoneWrong)

/-- 'groundlinglaw04.HmacKnown': WHATEVER THE INPUT: true; the input reads as it did. -/
def hmacKnownSpec : ChangeSpec := { name := "hmacKnown", fn := fun _ => fun
  | [] => { results := [.lit (.bool true)], args := [] }
  | _ => none }
def hmacKnownRow : OpenClaim := { program := "ytgpgnfdbjljljaadoor", sum := "78052f5243e5a95b3e87c33e31c6770daf9677b9deb0f56b2db8da446821bc19", func := "groundling/groundlinglaw04.HmacKnown", spec := "hmacKnown", unfollowed := true, recurses := true, named := ["groundling/sha.start", "groundling/sha.constants"], apart := false, laid := [("groundling/sha.start", laid_groundling_sha_start), ("groundling/sha.constants", laid_groundling_sha_constants)] }
def HmacKnownSaid : Prop := hmacKnownRow.holds Tryd.pinned (OpenSpec.ofChange hmacKnownSpec)

/-- ITS FALSE NEIGHBOUR: 'it returns false'. Refute it at one input. -/
def hmacKnownWrong : ChangeSpec := { name := "hmacKnown", fn := fun _ => fun
  | [] => { results := [.lit (.bool false)], args := [] }
  | _ => none }
def HmacKnownWrongFalsely : Prop := hmacKnownRow.holds Tryd.pinned (OpenSpec.ofChange hmacKnownWrong)

/- THE SECOND FORM. 'bulk': how many values and letters a reading holds, each counted each time it is reached (what is shared counts as often as it is met; a slice's spare places count too). A statement '..UptoSaid' is the law's where the arguments, and the package variables that the reading takes, are together of bulk at most 1048576: NARROWER than '..Said'. Prove '..Said' where nothing that the law and all that it calls make is longer than what came in: it says more and counts as full. Else prove '..UptoSaid'. A law counts once. -/
mutual
def uptoBulk {H : Type} : DataW H → Nat
  | .lit (.string bytes) => bytes.length + 1
  | .lit _ => 1
  | .nil => 1
  | .ptr d => uptoBulk d + 1
  | .slice elems spare => uptoBulkAll elems + uptoBulkAll spare + 1
  | .agg parts => uptoBulkAll parts + 1
  | .iface _ d => uptoBulk d + 1
  | .map entries => uptoBulkEntries entries + 1
  | .held _ => 1
def uptoBulkAll {H : Type} : List (DataW H) → Nat
  | [] => 0
  | d :: r => uptoBulk d + uptoBulkAll r
def uptoBulkEntries {H : Type} : List (Lit × DataW H) → Nat
  | [] => 0
  | x :: r => uptoBulkEntry x + uptoBulkEntries r
def uptoBulkEntry {H : Type} : Lit × DataW H → Nat
  | (.string bytes, d) => bytes.length + uptoBulk d + 1
  | (_, d) => uptoBulk d + 1
 end
def uptoSmall : (H : Type) → List (DataW H) → Bool := fun _ ds => decide (uptoBulkAll ds ≤ 1048576)
def OpenSpec.upto (s : _root_.Go.ChangeSpec) : _root_.Go.OpenSpec := { _root_.Go.OpenSpec.ofChange s with cond := some uptoSmall }

/-- 'groundlinglaw03.ShaHexes', WHERE WHAT IT READS IS OF BULK AT MOST 1048576: true; the input reads as it did. -/
def shaHexesUptoRow : OpenClaim := { program := "ytgpgnfdbjljljaadoor", sum := "78052f5243e5a95b3e87c33e31c6770daf9677b9deb0f56b2db8da446821bc19", func := "groundling/groundlinglaw03.ShaHexes", spec := "shaHexes", inPlace := ["internal/bytealg.IndexByteString"], unfollowed := true, recurses := true, named := ["groundling/sha.start", "groundling/sha.constants"], apart := false, laid := [("groundling/sha.start", laid_groundling_sha_start), ("groundling/sha.constants", laid_groundling_sha_constants)], narrowed := true }
def ShaHexesUptoSaid : Prop := shaHexesUptoRow.holds Tryd.pinned (OpenSpec.upto shaHexesSpec)

/-- 'groundlinglaw03.ShaHashes', WHERE WHAT IT READS IS OF BULK AT MOST 1048576: true; the input reads as it did. -/
def shaHashesUptoRow : OpenClaim := { program := "ytgpgnfdbjljljaadoor", sum := "78052f5243e5a95b3e87c33e31c6770daf9677b9deb0f56b2db8da446821bc19", func := "groundling/groundlinglaw03.ShaHashes", spec := "shaHashes", unfollowed := true, recurses := true, named := ["groundling/sha.start", "groundling/sha.constants"], apart := false, laid := [("groundling/sha.start", laid_groundling_sha_start), ("groundling/sha.constants", laid_groundling_sha_constants)], narrowed := true }
def ShaHashesUptoSaid : Prop := shaHashesUptoRow.holds Tryd.pinned (OpenSpec.upto shaHashesSpec)

/-- 'groundlinglaw03.ShaRoots', WHERE WHAT IT READS IS OF BULK AT MOST 1048576: true; the input reads as it did. -/
def shaRootsUptoRow : OpenClaim := { program := "ytgpgnfdbjljljaadoor", sum := "78052f5243e5a95b3e87c33e31c6770daf9677b9deb0f56b2db8da446821bc19", func := "groundling/groundlinglaw03.ShaRoots", spec := "shaRoots", unfollowed := true, recurses := true, named := ["groundling/sha.constants", "groundling/sha.start"], apart := false, laid := [("groundling/sha.start", laid_groundling_sha_start), ("groundling/sha.constants", laid_groundling_sha_constants)], narrowed := true }
def ShaRootsUptoSaid : Prop := shaRootsUptoRow.holds Tryd.pinned (OpenSpec.upto shaRootsSpec)

/-- 'groundlinglaw04.HmacTags', WHERE WHAT IT READS IS OF BULK AT MOST 1048576: true; the input reads as it did. -/
def hmacTagsUptoRow : OpenClaim := { program := "ytgpgnfdbjljljaadoor", sum := "78052f5243e5a95b3e87c33e31c6770daf9677b9deb0f56b2db8da446821bc19", func := "groundling/groundlinglaw04.HmacTags", spec := "hmacTags", unfollowed := true, recurses := true, named := ["groundling/sha.start", "groundling/sha.constants"], apart := false, laid := [("groundling/sha.start", laid_groundling_sha_start), ("groundling/sha.constants", laid_groundling_sha_constants)], narrowed := true }
def HmacTagsUptoSaid : Prop := hmacTagsUptoRow.holds Tryd.pinned (OpenSpec.upto hmacTagsSpec)

/-- 'groundlinglaw04.HmacEquals', WHERE WHAT IT READS IS OF BULK AT MOST 1048576: true; the input reads as it did. -/
def hmacEqualsUptoRow : OpenClaim := { program := "ytgpgnfdbjljljaadoor", sum := "78052f5243e5a95b3e87c33e31c6770daf9677b9deb0f56b2db8da446821bc19", func := "groundling/groundlinglaw04.HmacEquals", spec := "hmacEquals", unfollowed := true, recurses := true, named := ["groundling/sha.start", "groundling/sha.constants"], apart := false, laid := [("groundling/sha.start", laid_groundling_sha_start), ("groundling/sha.constants", laid_groundling_sha_constants)], narrowed := true }
def HmacEqualsUptoSaid : Prop := hmacEqualsUptoRow.holds Tryd.pinned (OpenSpec.upto hmacEqualsSpec)

/-- 'groundlinglaw04.HmacVerifies', WHERE WHAT IT READS IS OF BULK AT MOST 1048576: true; the input reads as it did. -/
def hmacVerifiesUptoRow : OpenClaim := { program := "ytgpgnfdbjljljaadoor", sum := "78052f5243e5a95b3e87c33e31c6770daf9677b9deb0f56b2db8da446821bc19", func := "groundling/groundlinglaw04.HmacVerifies", spec := "hmacVerifies", unfollowed := true, recurses := true, named := ["groundling/sha.start", "groundling/sha.constants"], apart := false, laid := [("groundling/sha.start", laid_groundling_sha_start), ("groundling/sha.constants", laid_groundling_sha_constants)], narrowed := true }
def HmacVerifiesUptoSaid : Prop := hmacVerifiesUptoRow.holds Tryd.pinned (OpenSpec.upto hmacVerifiesSpec)

/-- 'groundlinglaw04.HmacAccepts', WHERE WHAT IT READS IS OF BULK AT MOST 1048576: true; the input reads as it did. -/
def hmacAcceptsUptoRow : OpenClaim := { program := "ytgpgnfdbjljljaadoor", sum := "78052f5243e5a95b3e87c33e31c6770daf9677b9deb0f56b2db8da446821bc19", func := "groundling/groundlinglaw04.HmacAccepts", spec := "hmacAccepts", unfollowed := true, recurses := true, named := ["groundling/sha.start", "groundling/sha.constants"], apart := false, laid := [("groundling/sha.start", laid_groundling_sha_start), ("groundling/sha.constants", laid_groundling_sha_constants)], narrowed := true }
def HmacAcceptsUptoSaid : Prop := hmacAcceptsUptoRow.holds Tryd.pinned (OpenSpec.upto hmacAcceptsSpec)

/-- 'groundlinglaw04.HmacParts', WHERE WHAT IT READS IS OF BULK AT MOST 1048576: true; the input reads as it did. -/
def hmacPartsUptoRow : OpenClaim := { program := "ytgpgnfdbjljljaadoor", sum := "78052f5243e5a95b3e87c33e31c6770daf9677b9deb0f56b2db8da446821bc19", func := "groundling/groundlinglaw04.HmacParts", spec := "hmacParts", unfollowed := true, recurses := true, named := ["groundling/sha.start", "groundling/sha.constants"], apart := false, laid := [("groundling/sha.start", laid_groundling_sha_start), ("groundling/sha.constants", laid_groundling_sha_constants)], narrowed := true }
def HmacPartsUptoSaid : Prop := hmacPartsUptoRow.holds Tryd.pinned (OpenSpec.upto hmacPartsSpec)

/-- 'groundlinglaw04.HmacKeys', WHERE WHAT IT READS IS OF BULK AT MOST 1048576: true; the input reads as it did. -/
def hmacKeysUptoRow : OpenClaim := { program := "ytgpgnfdbjljljaadoor", sum := "78052f5243e5a95b3e87c33e31c6770daf9677b9deb0f56b2db8da446821bc19", func := "groundling/groundlinglaw04.HmacKeys", spec := "hmacKeys", unfollowed := true, recurses := true, named := ["groundling/sha.start", "groundling/sha.constants"], apart := false, laid := [("groundling/sha.start", laid_groundling_sha_start), ("groundling/sha.constants", laid_groundling_sha_constants)], narrowed := true }
def HmacKeysUptoSaid : Prop := hmacKeysUptoRow.holds Tryd.pinned (OpenSpec.upto hmacKeysSpec)

/-- 'groundlinglaw04.HmacNone', WHERE WHAT IT READS IS OF BULK AT MOST 1048576: true; the input reads as it did. -/
def hmacNoneUptoRow : OpenClaim := { program := "ytgpgnfdbjljljaadoor", sum := "78052f5243e5a95b3e87c33e31c6770daf9677b9deb0f56b2db8da446821bc19", func := "groundling/groundlinglaw04.HmacNone", spec := "hmacNone", unfollowed := true, recurses := true, named := ["groundling/sha.constants", "groundling/sha.start"], apart := false, laid := [("groundling/sha.start", laid_groundling_sha_start), ("groundling/sha.constants", laid_groundling_sha_constants)], narrowed := true }
def HmacNoneUptoSaid : Prop := hmacNoneUptoRow.holds Tryd.pinned (OpenSpec.upto hmacNoneSpec)

/-- 'groundlinglaw04.HmacKnown', WHERE WHAT IT READS IS OF BULK AT MOST 1048576: true; the input reads as it did. -/
def hmacKnownUptoRow : OpenClaim := { program := "ytgpgnfdbjljljaadoor", sum := "78052f5243e5a95b3e87c33e31c6770daf9677b9deb0f56b2db8da446821bc19", func := "groundling/groundlinglaw04.HmacKnown", spec := "hmacKnown", unfollowed := true, recurses := true, named := ["groundling/sha.start", "groundling/sha.constants"], apart := false, laid := [("groundling/sha.start", laid_groundling_sha_start), ("groundling/sha.constants", laid_groundling_sha_constants)], narrowed := true }
def HmacKnownUptoSaid : Prop := hmacKnownUptoRow.holds Tryd.pinned (OpenSpec.upto hmacKnownSpec)

end Rows
end Go.Proofs.YtgpgnfdbjljljaaDoor
