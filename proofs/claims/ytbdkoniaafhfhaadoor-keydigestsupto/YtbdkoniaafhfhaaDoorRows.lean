/-
  NARROWER THAN 'FOR EVERY INPUT', by the rows' own cells (each row's printed sentence says how): KeyNames: laid · KeySigns: laid · KeyDigests: laid · KeyVerifies: laid · KeyUnlike: laid.
  DERIVED. THE GIVEN ROWS OF THIS SEAT. 5 by the template 'for every input the law returns true; each argument reads behind the call as it read before'; 0 by the template 'total and deterministic' (their statements: YtbdkoniaafhfhaaDoorTotals.lean).
  GIVEN WITH THE SEED: the statements are not yours to turn. If you find one false, say at which input.
  Laid BY PROGRAM, IN A SANDBOX (cutbox-rows.mjs): the forced cells as the released guide's own fill.sh prints them over the translation ee23d7ba8bce9e17… (all of the seat's roots in one cut). By AI agents, Wed Nov 11 2026. No macro, syntax, notation, axiom, sorry.
-/
import Derived.Test.YtbdkoniaafhfhaaDoorChecked
import GoSem.Claim
import GoSem.ClaimJoined
import GoSem.ClaimMapViews
import Derived.JoinedTies
import Derived.KernelRfl
namespace Go.Proofs.YtbdkoniaafhfhaaDoor
/- THE CELL 'sum', in the pinned program and in every row, IS THE sha256 OF THE DUMP (.gsa) THAT YtbdkoniaafhfhaaDoorProg.lean LOADS. Nothing in Lean hashes anything: it is a label: what it is worth is what the hold of that sum in a sandbox is worth. -/
noncomputable def Tryd.pinned : Pinned := { name := "ytbdkoniaafhfhaadoor", sum := "ee23d7ba8bce9e17829e62d5fe73341a9ee30986cf6e3704e42ac6d3145d502a", checked := Tryd.checked }
namespace Rows
def none {H : Type} : Left H := { results := [], args := [] }

/- WHAT THE LISTED PACKAGE-LEVEL VARIABLES READ AS WHEN THE CALL BEGINS. Each datum BY PROGRAM (the guide's laid-datum.mjs) off the statement by which the dump's own 'gosem.cut.vars' lays the variable. In a bare row this is a premise. The card (YtbdkoniaafhfhaaDoorCards.lean) ties it to the program's text. -/
def laid_catenary_sha_constants {H : Type} : DataW H := .agg [.lit (.int .u32 1116352408), .lit (.int .u32 1899447441), .lit (.int .u32 3049323471), .lit (.int .u32 3921009573), .lit (.int .u32 961987163), .lit (.int .u32 1508970993), .lit (.int .u32 2453635748), .lit (.int .u32 2870763221), .lit (.int .u32 3624381080), .lit (.int .u32 310598401), .lit (.int .u32 607225278), .lit (.int .u32 1426881987), .lit (.int .u32 1925078388), .lit (.int .u32 2162078206), .lit (.int .u32 2614888103), .lit (.int .u32 3248222580), .lit (.int .u32 3835390401), .lit (.int .u32 4022224774), .lit (.int .u32 264347078), .lit (.int .u32 604807628), .lit (.int .u32 770255983), .lit (.int .u32 1249150122), .lit (.int .u32 1555081692), .lit (.int .u32 1996064986), .lit (.int .u32 2554220882), .lit (.int .u32 2821834349), .lit (.int .u32 2952996808), .lit (.int .u32 3210313671), .lit (.int .u32 3336571891), .lit (.int .u32 3584528711), .lit (.int .u32 113926993), .lit (.int .u32 338241895), .lit (.int .u32 666307205), .lit (.int .u32 773529912), .lit (.int .u32 1294757372), .lit (.int .u32 1396182291), .lit (.int .u32 1695183700), .lit (.int .u32 1986661051), .lit (.int .u32 2177026350), .lit (.int .u32 2456956037), .lit (.int .u32 2730485921), .lit (.int .u32 2820302411), .lit (.int .u32 3259730800), .lit (.int .u32 3345764771), .lit (.int .u32 3516065817), .lit (.int .u32 3600352804), .lit (.int .u32 4094571909), .lit (.int .u32 275423344), .lit (.int .u32 430227734), .lit (.int .u32 506948616), .lit (.int .u32 659060556), .lit (.int .u32 883997877), .lit (.int .u32 958139571), .lit (.int .u32 1322822218), .lit (.int .u32 1537002063), .lit (.int .u32 1747873779), .lit (.int .u32 1955562222), .lit (.int .u32 2024104815), .lit (.int .u32 2227730452), .lit (.int .u32 2361852424), .lit (.int .u32 2428436474), .lit (.int .u32 2756734187), .lit (.int .u32 3204031479), .lit (.int .u32 3329325298)]

/-- 'catenarylaw03.KeyNames': WHATEVER THE INPUT: true; the input reads as it did. -/
def keyNamesSpec : ChangeSpec := { name := "keyNames", fn := fun _ => fun
  | [] => { results := [.lit (.bool true)], args := [] }
  | _ => none }
def keyNamesRow : OpenClaim := { program := "ytbdkoniaafhfhaadoor", sum := "ee23d7ba8bce9e17829e62d5fe73341a9ee30986cf6e3704e42ac6d3145d502a", func := "catenary/catenarylaw03.KeyNames", spec := "keyNames", named := ["catenary/sha.constants"], apart := false, laid := [("catenary/sha.constants", laid_catenary_sha_constants)] }
def KeyNamesSaid : Prop := keyNamesRow.holds Tryd.pinned (OpenSpec.ofChange keyNamesSpec)

/-- ITS FALSE NEIGHBOUR: 'it returns false'. Refute it at one input. -/
def keyNamesWrong : ChangeSpec := { name := "keyNames", fn := fun _ => fun
  | [] => { results := [.lit (.bool false)], args := [] }
  | _ => none }
def KeyNamesWrongFalsely : Prop := keyNamesRow.holds Tryd.pinned (OpenSpec.ofChange keyNamesWrong)

/-- 'catenarylaw03.KeySigns': WHATEVER THE INPUT: true; the input reads as it did. -/
def keySignsSpec : ChangeSpec := { name := "keySigns", fn := fun _ => fun
  | [d1, d2, d3] => { results := [.lit (.bool true)], args := [d1, d2, d3] }
  | _ => none }
def keySignsRow : OpenClaim := { program := "ytbdkoniaafhfhaadoor", sum := "ee23d7ba8bce9e17829e62d5fe73341a9ee30986cf6e3704e42ac6d3145d502a", func := "catenary/catenarylaw03.KeySigns", spec := "keySigns", recurses := true, named := ["catenary/sha.constants"], apart := false, laid := [("catenary/sha.constants", laid_catenary_sha_constants)] }
def KeySignsSaid : Prop := keySignsRow.holds Tryd.pinned (OpenSpec.ofChange keySignsSpec)

/-- ITS FALSE NEIGHBOUR: 'it returns false'. Refute it at one input. -/
def keySignsWrong : ChangeSpec := { name := "keySigns", fn := fun _ => fun
  | [d1, d2, d3] => { results := [.lit (.bool false)], args := [d1, d2, d3] }
  | _ => none }
def KeySignsWrongFalsely : Prop := keySignsRow.holds Tryd.pinned (OpenSpec.ofChange keySignsWrong)

/-- 'catenarylaw03.KeyDigests': WHATEVER THE INPUT: true; the input reads as it did. -/
def keyDigestsSpec : ChangeSpec := { name := "keyDigests", fn := fun _ => fun
  | [d1, d2, d3] => { results := [.lit (.bool true)], args := [d1, d2, d3] }
  | _ => none }
def keyDigestsRow : OpenClaim := { program := "ytbdkoniaafhfhaadoor", sum := "ee23d7ba8bce9e17829e62d5fe73341a9ee30986cf6e3704e42ac6d3145d502a", func := "catenary/catenarylaw03.KeyDigests", spec := "keyDigests", recurses := true, named := ["catenary/sha.constants"], apart := false, laid := [("catenary/sha.constants", laid_catenary_sha_constants)] }
def KeyDigestsSaid : Prop := keyDigestsRow.holds Tryd.pinned (OpenSpec.ofChange keyDigestsSpec)

/-- ITS FALSE NEIGHBOUR: 'it returns false'. Refute it at one input. -/
def keyDigestsWrong : ChangeSpec := { name := "keyDigests", fn := fun _ => fun
  | [d1, d2, d3] => { results := [.lit (.bool false)], args := [d1, d2, d3] }
  | _ => none }
def KeyDigestsWrongFalsely : Prop := keyDigestsRow.holds Tryd.pinned (OpenSpec.ofChange keyDigestsWrong)

/-- 'catenarylaw03.KeyVerifies': WHATEVER THE INPUT: true; the input reads as it did. -/
def keyVerifiesSpec : ChangeSpec := { name := "keyVerifies", fn := fun _ => fun
  | [d1, d2, d3] => { results := [.lit (.bool true)], args := [d1, d2, d3] }
  | _ => none }
def keyVerifiesRow : OpenClaim := { program := "ytbdkoniaafhfhaadoor", sum := "ee23d7ba8bce9e17829e62d5fe73341a9ee30986cf6e3704e42ac6d3145d502a", func := "catenary/catenarylaw03.KeyVerifies", spec := "keyVerifies", recurses := true, named := ["catenary/sha.constants"], apart := false, laid := [("catenary/sha.constants", laid_catenary_sha_constants)] }
def KeyVerifiesSaid : Prop := keyVerifiesRow.holds Tryd.pinned (OpenSpec.ofChange keyVerifiesSpec)

/-- ITS FALSE NEIGHBOUR: 'it returns false'. Refute it at one input. -/
def keyVerifiesWrong : ChangeSpec := { name := "keyVerifies", fn := fun _ => fun
  | [d1, d2, d3] => { results := [.lit (.bool false)], args := [d1, d2, d3] }
  | _ => none }
def KeyVerifiesWrongFalsely : Prop := keyVerifiesRow.holds Tryd.pinned (OpenSpec.ofChange keyVerifiesWrong)

/-- 'catenarylaw03.KeyUnlike': WHATEVER THE INPUT: true; the input reads as it did. -/
def keyUnlikeSpec : ChangeSpec := { name := "keyUnlike", fn := fun _ => fun
  | [d1, d2, d3] => { results := [.lit (.bool true)], args := [d1, d2, d3] }
  | _ => none }
def keyUnlikeRow : OpenClaim := { program := "ytbdkoniaafhfhaadoor", sum := "ee23d7ba8bce9e17829e62d5fe73341a9ee30986cf6e3704e42ac6d3145d502a", func := "catenary/catenarylaw03.KeyUnlike", spec := "keyUnlike", named := ["catenary/sha.constants"], apart := false, laid := [("catenary/sha.constants", laid_catenary_sha_constants)] }
def KeyUnlikeSaid : Prop := keyUnlikeRow.holds Tryd.pinned (OpenSpec.ofChange keyUnlikeSpec)

/-- ITS FALSE NEIGHBOUR: 'it returns false'. Refute it at one input. -/
def keyUnlikeWrong : ChangeSpec := { name := "keyUnlike", fn := fun _ => fun
  | [d1, d2, d3] => { results := [.lit (.bool false)], args := [d1, d2, d3] }
  | _ => none }
def KeyUnlikeWrongFalsely : Prop := keyUnlikeRow.holds Tryd.pinned (OpenSpec.ofChange keyUnlikeWrong)

/- THE SECOND FORM. 'bulk': how many values and letters a reading holds, each counted each time it is reached (what is shared counts as often as it is met; a slice's spare places count too). A statement '..UptoSaid' is the law's where the arguments, and the package variables that the reading takes, are together of bulk at most 1048576: NARROWER than '..Said'. Prove '..Said' where nothing that the law and all that it calls make is longer than what came in: it says more and counts as full. Else prove '..UptoSaid'. A law counts once. -/
mutual
def uptoBulk {H : Type} : DataW H → Nat
  | .lit (.string bytes) => bytes.length + 1
  | .lit _ => 1
  | .nil => 1
  | .ptr d => uptoBulk d + 1
  | .slice elems spare => uptoBulkAll elems + uptoBulkAll spare + 1
  | .agg parts => uptoBulkAll parts + 1
  | .iface _ d => uptoBulk d + 1
  | .map entries => uptoBulkEntries entries + 1
  | .held _ => 1
def uptoBulkAll {H : Type} : List (DataW H) → Nat
  | [] => 0
  | d :: r => uptoBulk d + uptoBulkAll r
def uptoBulkEntries {H : Type} : List (Lit × DataW H) → Nat
  | [] => 0
  | x :: r => uptoBulkEntry x + uptoBulkEntries r
def uptoBulkEntry {H : Type} : Lit × DataW H → Nat
  | (.string bytes, d) => bytes.length + uptoBulk d + 1
  | (_, d) => uptoBulk d + 1
 end
def uptoSmall : (H : Type) → List (DataW H) → Bool := fun _ ds => decide (uptoBulkAll ds ≤ 1048576)
def OpenSpec.upto (s : _root_.Go.ChangeSpec) : _root_.Go.OpenSpec := { _root_.Go.OpenSpec.ofChange s with cond := some uptoSmall }

/-- 'catenarylaw03.KeyNames', WHERE WHAT IT READS IS OF BULK AT MOST 1048576: true; the input reads as it did. -/
def keyNamesUptoRow : OpenClaim := { program := "ytbdkoniaafhfhaadoor", sum := "ee23d7ba8bce9e17829e62d5fe73341a9ee30986cf6e3704e42ac6d3145d502a", func := "catenary/catenarylaw03.KeyNames", spec := "keyNames", named := ["catenary/sha.constants"], apart := false, laid := [("catenary/sha.constants", laid_catenary_sha_constants)], narrowed := true }
def KeyNamesUptoSaid : Prop := keyNamesUptoRow.holds Tryd.pinned (OpenSpec.upto keyNamesSpec)

/-- 'catenarylaw03.KeySigns', WHERE WHAT IT READS IS OF BULK AT MOST 1048576: true; the input reads as it did. -/
def keySignsUptoRow : OpenClaim := { program := "ytbdkoniaafhfhaadoor", sum := "ee23d7ba8bce9e17829e62d5fe73341a9ee30986cf6e3704e42ac6d3145d502a", func := "catenary/catenarylaw03.KeySigns", spec := "keySigns", recurses := true, named := ["catenary/sha.constants"], apart := false, laid := [("catenary/sha.constants", laid_catenary_sha_constants)], narrowed := true }
def KeySignsUptoSaid : Prop := keySignsUptoRow.holds Tryd.pinned (OpenSpec.upto keySignsSpec)

/-- 'catenarylaw03.KeyDigests', WHERE WHAT IT READS IS OF BULK AT MOST 1048576: true; the input reads as it did. -/
def keyDigestsUptoRow : OpenClaim := { program := "ytbdkoniaafhfhaadoor", sum := "ee23d7ba8bce9e17829e62d5fe73341a9ee30986cf6e3704e42ac6d3145d502a", func := "catenary/catenarylaw03.KeyDigests", spec := "keyDigests", recurses := true, named := ["catenary/sha.constants"], apart := false, laid := [("catenary/sha.constants", laid_catenary_sha_constants)], narrowed := true }
def KeyDigestsUptoSaid : Prop := keyDigestsUptoRow.holds Tryd.pinned (OpenSpec.upto keyDigestsSpec)

/-- 'catenarylaw03.KeyVerifies', WHERE WHAT IT READS IS OF BULK AT MOST 1048576: true; the input reads as it did. -/
def keyVerifiesUptoRow : OpenClaim := { program := "ytbdkoniaafhfhaadoor", sum := "ee23d7ba8bce9e17829e62d5fe73341a9ee30986cf6e3704e42ac6d3145d502a", func := "catenary/catenarylaw03.KeyVerifies", spec := "keyVerifies", recurses := true, named := ["catenary/sha.constants"], apart := false, laid := [("catenary/sha.constants", laid_catenary_sha_constants)], narrowed := true }
def KeyVerifiesUptoSaid : Prop := keyVerifiesUptoRow.holds Tryd.pinned (OpenSpec.upto keyVerifiesSpec)

/-- 'catenarylaw03.KeyUnlike', WHERE WHAT IT READS IS OF BULK AT MOST 1048576: true; the input reads as it did. -/
def keyUnlikeUptoRow : OpenClaim := { program := "ytbdkoniaafhfhaadoor", sum := "ee23d7ba8bce9e17829e62d5fe73341a9ee30986cf6e3704e42ac6d3145d502a", func := "catenary/catenarylaw03.KeyUnlike", spec := "keyUnlike", named := ["catenary/sha.constants"], apart := false, laid := [("catenary/sha.constants", laid_catenary_sha_constants)], narrowed := true }
def KeyUnlikeUptoSaid : Prop := keyUnlikeUptoRow.holds Tryd.pinned (OpenSpec.upto keyUnlikeSpec)

end Rows
end Go.Proofs.YtbdkoniaafhfhaaDoor
