/-
  NARROWER THAN 'FOR EVERY INPUT', by the rows' own cells (each row's printed sentence says how): WordForms: laid · WordBack: laid · WordParts: laid.
  DERIVED. THE GIVEN ROWS OF THIS SEAT. 3 by the template 'for every input the law returns true; each argument reads behind the call as it read before'; 0 by the template 'total and deterministic' (their statements: YtchankbdfkgdiaaDoorTotals.lean).
  GIVEN WITH THE SEED: the statements are not yours to turn. If you find one false, say at which input.
  Laid BY PROGRAM, IN A SANDBOX (cutbox-rows.mjs): the forced cells as the released guide's own fill.sh prints them over the translation 100675fbf3ba32f3… (all of the seat's roots in one cut). By AI agents, Wed Nov 11 2026. No macro, syntax, notation, axiom, sorry.
-/
import Derived.Test.YtchankbdfkgdiaaDoorChecked
import GoSem.Claim
import GoSem.ClaimJoined
import GoSem.ClaimMapViews
import Derived.JoinedTies
import Derived.KernelRfl
namespace Go.Proofs.YtchankbdfkgdiaaDoor
/- THE CELL 'sum', in the pinned program and in every row, IS THE sha256 OF THE DUMP (.gsa) THAT YtchankbdfkgdiaaDoorProg.lean LOADS. Nothing in Lean hashes anything: it is a label: what it is worth is what the hold of that sum in a sandbox is worth. -/
noncomputable def Tryd.pinned : Pinned := { name := "ytchankbdfkgdiaadoor", sum := "100675fbf3ba32f34286af9a779fb688362ab76a061f4a75cb963a9d7539739e", checked := Tryd.checked }
namespace Rows
def none {H : Type} : Left H := { results := [], args := [] }

/- WHAT THE LISTED PACKAGE-LEVEL VARIABLES READ AS WHEN THE CALL BEGINS. Each datum BY PROGRAM (the guide's laid-datum.mjs) off the statement by which the dump's own 'gosem.cut.vars' lays the variable. In a bare row this is a premise. The card (YtchankbdfkgdiaaDoorCards.lean) ties it to the program's text. -/
def laid_errors_errorType {H : Type} : DataW H := .iface "internal/reflectlite.rtype" (.agg [.ptr (.lit (.string [101, 114, 114, 111, 114]))])
def laid_bloomery_word_forms {H : Type} : DataW H := .agg [.agg [.lit (.int .u8 0), .lit (.int .u8 0), .lit (.int .u8 0), .lit (.int .u8 0)], .agg [.lit (.int .u8 0), .lit (.int .u8 51), .lit (.int .u8 0), .lit (.int .u8 0)], .agg [.lit (.int .u8 0), .lit (.int .u8 51), .lit (.int .u8 0), .lit (.int .u8 32)], .agg [.lit (.int .u8 0), .lit (.int .u8 51), .lit (.int .u8 0), .lit (.int .u8 1)], .agg [.lit (.int .u8 0), .lit (.int .u8 51), .lit (.int .u8 4), .lit (.int .u8 1)], .agg [.lit (.int .u8 0), .lit (.int .u8 51), .lit (.int .u8 6), .lit (.int .u8 1)], .agg [.lit (.int .u8 0), .lit (.int .u8 51), .lit (.int .u8 7), .lit (.int .u8 0)], .agg [.lit (.int .u8 0), .lit (.int .u8 51), .lit (.int .u8 6), .lit (.int .u8 0)], .agg [.lit (.int .u8 0), .lit (.int .u8 51), .lit (.int .u8 4), .lit (.int .u8 0)], .agg [.lit (.int .u8 0), .lit (.int .u8 51), .lit (.int .u8 2), .lit (.int .u8 0)], .agg [.lit (.int .u8 0), .lit (.int .u8 51), .lit (.int .u8 3), .lit (.int .u8 0)], .agg [.lit (.int .u8 0), .lit (.int .u8 51), .lit (.int .u8 1), .lit (.int .u8 0)], .agg [.lit (.int .u8 0), .lit (.int .u8 51), .lit (.int .u8 5), .lit (.int .u8 0)], .agg [.lit (.int .u8 0), .lit (.int .u8 51), .lit (.int .u8 5), .lit (.int .u8 32)], .agg [.lit (.int .u8 1), .lit (.int .u8 19), .lit (.int .u8 0), .lit (.int .u8 0)], .agg [.lit (.int .u8 1), .lit (.int .u8 19), .lit (.int .u8 7), .lit (.int .u8 0)], .agg [.lit (.int .u8 1), .lit (.int .u8 19), .lit (.int .u8 6), .lit (.int .u8 0)], .agg [.lit (.int .u8 1), .lit (.int .u8 19), .lit (.int .u8 4), .lit (.int .u8 0)], .agg [.lit (.int .u8 1), .lit (.int .u8 19), .lit (.int .u8 2), .lit (.int .u8 0)], .agg [.lit (.int .u8 2), .lit (.int .u8 19), .lit (.int .u8 1), .lit (.int .u8 0)], .agg [.lit (.int .u8 2), .lit (.int .u8 19), .lit (.int .u8 5), .lit (.int .u8 0)], .agg [.lit (.int .u8 2), .lit (.int .u8 19), .lit (.int .u8 5), .lit (.int .u8 32)], .agg [.lit (.int .u8 1), .lit (.int .u8 3), .lit (.int .u8 3), .lit (.int .u8 0)], .agg [.lit (.int .u8 1), .lit (.int .u8 103), .lit (.int .u8 0), .lit (.int .u8 0)], .agg [.lit (.int .u8 3), .lit (.int .u8 35), .lit (.int .u8 3), .lit (.int .u8 0)], .agg [.lit (.int .u8 4), .lit (.int .u8 99), .lit (.int .u8 0), .lit (.int .u8 0)], .agg [.lit (.int .u8 4), .lit (.int .u8 99), .lit (.int .u8 1), .lit (.int .u8 0)], .agg [.lit (.int .u8 4), .lit (.int .u8 99), .lit (.int .u8 4), .lit (.int .u8 0)], .agg [.lit (.int .u8 4), .lit (.int .u8 99), .lit (.int .u8 5), .lit (.int .u8 0)], .agg [.lit (.int .u8 5), .lit (.int .u8 55), .lit (.int .u8 0), .lit (.int .u8 0)], .agg [.lit (.int .u8 6), .lit (.int .u8 111), .lit (.int .u8 0), .lit (.int .u8 0)], .agg [.lit (.int .u8 7), .lit (.int .u8 115), .lit (.int .u8 0), .lit (.int .u8 0)]]
def laid_bloomery_word_shapes {H : Type} : DataW H := .agg [.agg [.lit (.bool true), .lit (.bool true), .lit (.bool true), .lit (.bool false), .lit (.int .u8 0), .lit (.int .u8 0), .lit (.int .u32 4261441663), .agg [.agg [.lit (.int .u8 0), .lit (.int .u8 0), .lit (.int .u8 0)], .agg [.lit (.int .u8 0), .lit (.int .u8 0), .lit (.int .u8 0)], .agg [.lit (.int .u8 0), .lit (.int .u8 0), .lit (.int .u8 0)], .agg [.lit (.int .u8 0), .lit (.int .u8 0), .lit (.int .u8 0)]]], .agg [.lit (.bool true), .lit (.bool true), .lit (.bool false), .lit (.bool true), .lit (.int .u8 12), .lit (.int .u8 0), .lit (.int .u32 28799), .agg [.agg [.lit (.int .u8 0), .lit (.int .u8 20), .lit (.int .u8 12)], .agg [.lit (.int .u8 0), .lit (.int .u8 0), .lit (.int .u8 0)], .agg [.lit (.int .u8 0), .lit (.int .u8 0), .lit (.int .u8 0)], .agg [.lit (.int .u8 0), .lit (.int .u8 0), .lit (.int .u8 0)]]], .agg [.lit (.bool true), .lit (.bool true), .lit (.bool false), .lit (.bool false), .lit (.int .u8 6), .lit (.int .u8 0), .lit (.int .u32 4227887231), .agg [.agg [.lit (.int .u8 0), .lit (.int .u8 20), .lit (.int .u8 6)], .agg [.lit (.int .u8 0), .lit (.int .u8 0), .lit (.int .u8 0)], .agg [.lit (.int .u8 0), .lit (.int .u8 0), .lit (.int .u8 0)], .agg [.lit (.int .u8 0), .lit (.int .u8 0), .lit (.int .u8 0)]]], .agg [.lit (.bool false), .lit (.bool true), .lit (.bool true), .lit (.bool true), .lit (.int .u8 12), .lit (.int .u8 0), .lit (.int .u32 28799), .agg [.agg [.lit (.int .u8 0), .lit (.int .u8 7), .lit (.int .u8 5)], .agg [.lit (.int .u8 5), .lit (.int .u8 25), .lit (.int .u8 7)], .agg [.lit (.int .u8 0), .lit (.int .u8 0), .lit (.int .u8 0)], .agg [.lit (.int .u8 0), .lit (.int .u8 0), .lit (.int .u8 0)]]], .agg [.lit (.bool false), .lit (.bool true), .lit (.bool true), .lit (.bool true), .lit (.int .u8 13), .lit (.int .u8 1), .lit (.int .u32 28799), .agg [.agg [.lit (.int .u8 11), .lit (.int .u8 7), .lit (.int .u8 1)], .agg [.lit (.int .u8 1), .lit (.int .u8 8), .lit (.int .u8 4)], .agg [.lit (.int .u8 5), .lit (.int .u8 25), .lit (.int .u8 6)], .agg [.lit (.int .u8 12), .lit (.int .u8 31), .lit (.int .u8 1)]]], .agg [.lit (.bool true), .lit (.bool false), .lit (.bool false), .lit (.bool true), .lit (.int .u8 32), .lit (.int .u8 12), .lit (.int .u32 127), .agg [.agg [.lit (.int .u8 12), .lit (.int .u8 12), .lit (.int .u8 20)], .agg [.lit (.int .u8 0), .lit (.int .u8 0), .lit (.int .u8 0)], .agg [.lit (.int .u8 0), .lit (.int .u8 0), .lit (.int .u8 0)], .agg [.lit (.int .u8 0), .lit (.int .u8 0), .lit (.int .u8 0)]]], .agg [.lit (.bool true), .lit (.bool false), .lit (.bool false), .lit (.bool true), .lit (.int .u8 21), .lit (.int .u8 1), .lit (.int .u32 127), .agg [.agg [.lit (.int .u8 12), .lit (.int .u8 12), .lit (.int .u8 8)], .agg [.lit (.int .u8 11), .lit (.int .u8 20), .lit (.int .u8 1)], .agg [.lit (.int .u8 1), .lit (.int .u8 21), .lit (.int .u8 10)], .agg [.lit (.int .u8 20), .lit (.int .u8 31), .lit (.int .u8 1)]]], .agg [.lit (.bool false), .lit (.bool false), .lit (.bool false), .lit (.bool false), .lit (.int .u8 0), .lit (.int .u8 0), .lit (.int .u32 4294967295), .agg [.agg [.lit (.int .u8 0), .lit (.int .u8 0), .lit (.int .u8 0)], .agg [.lit (.int .u8 0), .lit (.int .u8 0), .lit (.int .u8 0)], .agg [.lit (.int .u8 0), .lit (.int .u8 0), .lit (.int .u8 0)], .agg [.lit (.int .u8 0), .lit (.int .u8 0), .lit (.int .u8 0)]]]]

/-- 'bloomerylaw.WordForms': WHATEVER THE INPUT: true; the input reads as it did. -/
def wordFormsSpec : ChangeSpec := { name := "wordForms", fn := fun _ => fun
  | [d1, d2] => { results := [.lit (.bool true)], args := [d1, d2] }
  | _ => none }
def wordFormsRow : OpenClaim := { program := "ytchankbdfkgdiaadoor", sum := "100675fbf3ba32f34286af9a779fb688362ab76a061f4a75cb963a9d7539739e", func := "bloomery/bloomerylaw.WordForms", spec := "wordForms", inPlace := ["internal/bytealg.IndexByteString", "internal/bytealg.IndexString", "internal/reflectlite.ValueOf", "(internal/reflectlite.Value).Type", "(internal/reflectlite.Value).IsNil", "internal/reflectlite.TypeOf", "(internal/reflectlite.Value).Elem", "(internal/reflectlite.Value).Set"], unfollowed := true, recurses := true, named := ["internal/bytealg.MaxLen", "bloomery/word.forms", "bloomery/word.shapes", "errors.errorType"], apart := false, laid := [("errors.errorType", laid_errors_errorType), ("bloomery/word.forms", laid_bloomery_word_forms), ("bloomery/word.shapes", laid_bloomery_word_shapes)] }
def WordFormsSaid : Prop := wordFormsRow.holds Tryd.pinned (OpenSpec.ofChange wordFormsSpec)

/-- ITS FALSE NEIGHBOUR: 'it returns false'. Refute it at one input. -/
def wordFormsWrong : ChangeSpec := { name := "wordForms", fn := fun _ => fun
  | [d1, d2] => { results := [.lit (.bool false)], args := [d1, d2] }
  | _ => none }
def WordFormsWrongFalsely : Prop := wordFormsRow.holds Tryd.pinned (OpenSpec.ofChange wordFormsWrong)

/-- 'bloomerykeep.WordBack': WHATEVER THE INPUT: true; the input reads as it did. -/
def wordBackSpec : ChangeSpec := { name := "wordBack", fn := fun _ => fun
  | [d1, d2, d3] => { results := [.lit (.bool true)], args := [d1, d2, d3] }
  | _ => none }
def wordBackRow : OpenClaim := { program := "ytchankbdfkgdiaadoor", sum := "100675fbf3ba32f34286af9a779fb688362ab76a061f4a75cb963a9d7539739e", func := "bloomery/bloomerykeep.WordBack", spec := "wordBack", named := ["bloomery/word.forms", "bloomery/word.shapes"], apart := false, laid := [("bloomery/word.forms", laid_bloomery_word_forms), ("bloomery/word.shapes", laid_bloomery_word_shapes)] }
def WordBackSaid : Prop := wordBackRow.holds Tryd.pinned (OpenSpec.ofChange wordBackSpec)

/-- ITS FALSE NEIGHBOUR: 'it returns false'. Refute it at one input. -/
def wordBackWrong : ChangeSpec := { name := "wordBack", fn := fun _ => fun
  | [d1, d2, d3] => { results := [.lit (.bool false)], args := [d1, d2, d3] }
  | _ => none }
def WordBackWrongFalsely : Prop := wordBackRow.holds Tryd.pinned (OpenSpec.ofChange wordBackWrong)

/-- 'bloomerykeep.WordParts': WHATEVER THE INPUT: true; the input reads as it did. -/
def wordPartsSpec : ChangeSpec := { name := "wordParts", fn := fun _ => fun
  | [d1, d2] => { results := [.lit (.bool true)], args := [d1, d2] }
  | _ => none }
def wordPartsRow : OpenClaim := { program := "ytchankbdfkgdiaadoor", sum := "100675fbf3ba32f34286af9a779fb688362ab76a061f4a75cb963a9d7539739e", func := "bloomery/bloomerykeep.WordParts", spec := "wordParts", named := ["bloomery/word.forms", "bloomery/word.shapes"], apart := false, laid := [("bloomery/word.forms", laid_bloomery_word_forms), ("bloomery/word.shapes", laid_bloomery_word_shapes)] }
def WordPartsSaid : Prop := wordPartsRow.holds Tryd.pinned (OpenSpec.ofChange wordPartsSpec)

/-- ITS FALSE NEIGHBOUR: 'it returns false'. Refute it at one input. -/
def wordPartsWrong : ChangeSpec := { name := "wordParts", fn := fun _ => fun
  | [d1, d2] => { results := [.lit (.bool false)], args := [d1, d2] }
  | _ => none }
def WordPartsWrongFalsely : Prop := wordPartsRow.holds Tryd.pinned (OpenSpec.ofChange wordPartsWrong)

/- THE SECOND FORM. 'bulk': how many values and letters a reading holds, each counted each time it is reached (what is shared counts as often as it is met; a slice's spare places count too). A statement '..UptoSaid' is the law's where the arguments, and the package variables that the reading takes, are together of bulk at most 1048576: NARROWER than '..Said'. Prove '..Said' where nothing that the law and all that it calls make is longer than what came in: it says more and counts as full. Else prove '..UptoSaid'. A law counts once. -/
mutual
def uptoBulk {H : Type} : DataW H → Nat
  | .lit (.string bytes) => bytes.length + 1
  | .lit _ => 1
  | .nil => 1
  | .ptr d => uptoBulk d + 1
  | .slice elems spare => uptoBulkAll elems + uptoBulkAll spare + 1
  | .agg parts => uptoBulkAll parts + 1
  | .iface _ d => uptoBulk d + 1
  | .map entries => uptoBulkEntries entries + 1
  | .held _ => 1
def uptoBulkAll {H : Type} : List (DataW H) → Nat
  | [] => 0
  | d :: r => uptoBulk d + uptoBulkAll r
def uptoBulkEntries {H : Type} : List (Lit × DataW H) → Nat
  | [] => 0
  | x :: r => uptoBulkEntry x + uptoBulkEntries r
def uptoBulkEntry {H : Type} : Lit × DataW H → Nat
  | (.string bytes, d) => bytes.length + uptoBulk d + 1
  | (_, d) => uptoBulk d + 1
 end
def uptoSmall : (H : Type) → List (DataW H) → Bool := fun _ ds => decide (uptoBulkAll ds ≤ 1048576)
def OpenSpec.upto (s : _root_.Go.ChangeSpec) : _root_.Go.OpenSpec := { _root_.Go.OpenSpec.ofChange s with cond := some uptoSmall }

/-- 'bloomerylaw.WordForms', WHERE WHAT IT READS IS OF BULK AT MOST 1048576: true; the input reads as it did. -/
def wordFormsUptoRow : OpenClaim := { program := "ytchankbdfkgdiaadoor", sum := "100675fbf3ba32f34286af9a779fb688362ab76a061f4a75cb963a9d7539739e", func := "bloomery/bloomerylaw.WordForms", spec := "wordForms", inPlace := ["internal/bytealg.IndexByteString", "internal/bytealg.IndexString", "internal/reflectlite.ValueOf", "(internal/reflectlite.Value).Type", "(internal/reflectlite.Value).IsNil", "internal/reflectlite.TypeOf", "(internal/reflectlite.Value).Elem", "(internal/reflectlite.Value).Set"], unfollowed := true, recurses := true, named := ["internal/bytealg.MaxLen", "bloomery/word.forms", "bloomery/word.shapes", "errors.errorType"], apart := false, laid := [("errors.errorType", laid_errors_errorType), ("bloomery/word.forms", laid_bloomery_word_forms), ("bloomery/word.shapes", laid_bloomery_word_shapes)], narrowed := true }
def WordFormsUptoSaid : Prop := wordFormsUptoRow.holds Tryd.pinned (OpenSpec.upto wordFormsSpec)

/-- 'bloomerykeep.WordBack', WHERE WHAT IT READS IS OF BULK AT MOST 1048576: true; the input reads as it did. -/
def wordBackUptoRow : OpenClaim := { program := "ytchankbdfkgdiaadoor", sum := "100675fbf3ba32f34286af9a779fb688362ab76a061f4a75cb963a9d7539739e", func := "bloomery/bloomerykeep.WordBack", spec := "wordBack", named := ["bloomery/word.forms", "bloomery/word.shapes"], apart := false, laid := [("bloomery/word.forms", laid_bloomery_word_forms), ("bloomery/word.shapes", laid_bloomery_word_shapes)], narrowed := true }
def WordBackUptoSaid : Prop := wordBackUptoRow.holds Tryd.pinned (OpenSpec.upto wordBackSpec)

/-- 'bloomerykeep.WordParts', WHERE WHAT IT READS IS OF BULK AT MOST 1048576: true; the input reads as it did. -/
def wordPartsUptoRow : OpenClaim := { program := "ytchankbdfkgdiaadoor", sum := "100675fbf3ba32f34286af9a779fb688362ab76a061f4a75cb963a9d7539739e", func := "bloomery/bloomerykeep.WordParts", spec := "wordParts", named := ["bloomery/word.forms", "bloomery/word.shapes"], apart := false, laid := [("bloomery/word.forms", laid_bloomery_word_forms), ("bloomery/word.shapes", laid_bloomery_word_shapes)], narrowed := true }
def WordPartsUptoSaid : Prop := wordPartsUptoRow.holds Tryd.pinned (OpenSpec.upto wordPartsSpec)

end Rows
end Go.Proofs.YtchankbdfkgdiaaDoor
