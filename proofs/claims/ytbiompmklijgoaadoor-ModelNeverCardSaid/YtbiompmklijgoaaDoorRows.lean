/-
  NARROWER THAN 'FOR EVERY INPUT', by the rows' own cells (each row's printed sentence says how): ModelPlays: laid · ModelNone: laid · ModelNever: laid · ModelLeast: laid · ModelMore: laid · ModelCollects: laid · ModelTold: laid · ModelRefused: laid · ModelClones: laid.
  DERIVED. THE GIVEN ROWS OF THIS SEAT. 9 by the template 'for every input the law returns true; each argument reads behind the call as it read before'; 0 by the template 'total and deterministic' (their statements: YtbiompmklijgoaaDoorTotals.lean).
  GIVEN WITH THE SEED: the statements are not yours to turn. If you find one false, say at which input.
  Laid BY PROGRAM, IN A SANDBOX (cutbox-rows.mjs): the forced cells as the released guide's own fill.sh prints them over the translation 7577c0e13b727bc0… (all of the seat's roots in one cut). By AI agents, Wed Nov 11 2026. No macro, syntax, notation, axiom, sorry.
-/
import Derived.Test.YtbiompmklijgoaaDoorChecked
import GoSem.Claim
import GoSem.ClaimJoined
import GoSem.ClaimMapViews
import Derived.JoinedTies
import Derived.KernelRfl
namespace Go.Proofs.YtbiompmklijgoaaDoor
/- THE CELL 'sum', in the pinned program and in every row, IS THE sha256 OF THE DUMP (.gsa) THAT YtbiompmklijgoaaDoorProg.lean LOADS. Nothing in Lean hashes anything: it is a label: what it is worth is what the hold of that sum in a sandbox is worth. -/
noncomputable def Tryd.pinned : Pinned := { name := "ytbiompmklijgoaadoor", sum := "7577c0e13b727bc0126d7dbb1fd248a49447c9fab8ce4739876a0c1c1c43ff5e", checked := Tryd.checked }
namespace Rows
def none {H : Type} : Left H := { results := [], args := [] }

/- WHAT THE LISTED PACKAGE-LEVEL VARIABLES READ AS WHEN THE CALL BEGINS. Each datum BY PROGRAM (the guide's laid-datum.mjs) off the statement by which the dump's own 'gosem.cut.vars' lays the variable. In a bare row this is a premise. The card (YtbiompmklijgoaaDoorCards.lean) ties it to the program's text. -/
def laid_dustcart_model_loose {H : Type} : DataW H := .agg [.lit (.int .i64 0), .lit (.int .i64 1), .lit (.int .i64 2), .lit (.int .i64 0)]

/-- 'dustcartlaw04.ModelPlays': WHATEVER THE INPUT: true; the input reads as it did. -/
def modelPlaysSpec : ChangeSpec := { name := "modelPlays", fn := fun _ => fun
  | [d1, d2] => { results := [.lit (.bool true)], args := [d1, d2] }
  | _ => none }
def modelPlaysRow : OpenClaim := { program := "ytbiompmklijgoaadoor", sum := "7577c0e13b727bc0126d7dbb1fd248a49447c9fab8ce4739876a0c1c1c43ff5e", func := "dustcart/dustcartlaw04.ModelPlays", spec := "modelPlays", unfollowed := true, recurses := true, named := ["dustcart/model.loose"], apart := false, laid := [("dustcart/model.loose", laid_dustcart_model_loose)] }
def ModelPlaysSaid : Prop := modelPlaysRow.holds Tryd.pinned (OpenSpec.ofChange modelPlaysSpec)

/-- ITS FALSE NEIGHBOUR: 'it returns false'. Refute it at one input. -/
def modelPlaysWrong : ChangeSpec := { name := "modelPlays", fn := fun _ => fun
  | [d1, d2] => { results := [.lit (.bool false)], args := [d1, d2] }
  | _ => none }
def ModelPlaysWrongFalsely : Prop := modelPlaysRow.holds Tryd.pinned (OpenSpec.ofChange modelPlaysWrong)

/-- 'dustcartlaw04.ModelNone': WHATEVER THE INPUT: true; the input reads as it did. -/
def modelNoneSpec : ChangeSpec := { name := "modelNone", fn := fun _ => fun
  | [d] => { results := [.lit (.bool true)], args := [d] }
  | _ => none }
def modelNoneRow : OpenClaim := { program := "ytbiompmklijgoaadoor", sum := "7577c0e13b727bc0126d7dbb1fd248a49447c9fab8ce4739876a0c1c1c43ff5e", func := "dustcart/dustcartlaw04.ModelNone", spec := "modelNone", unfollowed := true, recurses := true, named := ["dustcart/model.loose"], apart := false, laid := [("dustcart/model.loose", laid_dustcart_model_loose)] }
def ModelNoneSaid : Prop := modelNoneRow.holds Tryd.pinned (OpenSpec.ofChange modelNoneSpec)

/-- ITS FALSE NEIGHBOUR: 'it returns false'. Refute it at one input. -/
def modelNoneWrong : ChangeSpec := { name := "modelNone", fn := fun _ => fun
  | [d] => { results := [.lit (.bool false)], args := [d] }
  | _ => none }
def ModelNoneWrongFalsely : Prop := modelNoneRow.holds Tryd.pinned (OpenSpec.ofChange modelNoneWrong)

/-- 'dustcartlaw04.ModelNever': WHATEVER THE INPUT: true; the input reads as it did. -/
def modelNeverSpec : ChangeSpec := { name := "modelNever", fn := fun _ => fun
  | [d1, d2, d3] => { results := [.lit (.bool true)], args := [d1, d2, d3] }
  | _ => none }
def modelNeverRow : OpenClaim := { program := "ytbiompmklijgoaadoor", sum := "7577c0e13b727bc0126d7dbb1fd248a49447c9fab8ce4739876a0c1c1c43ff5e", func := "dustcart/dustcartlaw04.ModelNever", spec := "modelNever", unfollowed := true, recurses := true, named := ["dustcart/model.loose"], apart := false, laid := [("dustcart/model.loose", laid_dustcart_model_loose)] }
def ModelNeverSaid : Prop := modelNeverRow.holds Tryd.pinned (OpenSpec.ofChange modelNeverSpec)

/-- ITS FALSE NEIGHBOUR: 'it returns false'. Refute it at one input. -/
def modelNeverWrong : ChangeSpec := { name := "modelNever", fn := fun _ => fun
  | [d1, d2, d3] => { results := [.lit (.bool false)], args := [d1, d2, d3] }
  | _ => none }
def ModelNeverWrongFalsely : Prop := modelNeverRow.holds Tryd.pinned (OpenSpec.ofChange modelNeverWrong)

/-- 'dustcartlaw04.ModelLeast': WHATEVER THE INPUT: true; the input reads as it did. -/
def modelLeastSpec : ChangeSpec := { name := "modelLeast", fn := fun _ => fun
  | [d1, d2] => { results := [.lit (.bool true)], args := [d1, d2] }
  | _ => none }
def modelLeastRow : OpenClaim := { program := "ytbiompmklijgoaadoor", sum := "7577c0e13b727bc0126d7dbb1fd248a49447c9fab8ce4739876a0c1c1c43ff5e", func := "dustcart/dustcartlaw04.ModelLeast", spec := "modelLeast", unfollowed := true, recurses := true, named := ["dustcart/model.loose"], apart := false, laid := [("dustcart/model.loose", laid_dustcart_model_loose)] }
def ModelLeastSaid : Prop := modelLeastRow.holds Tryd.pinned (OpenSpec.ofChange modelLeastSpec)

/-- ITS FALSE NEIGHBOUR: 'it returns false'. Refute it at one input. -/
def modelLeastWrong : ChangeSpec := { name := "modelLeast", fn := fun _ => fun
  | [d1, d2] => { results := [.lit (.bool false)], args := [d1, d2] }
  | _ => none }
def ModelLeastWrongFalsely : Prop := modelLeastRow.holds Tryd.pinned (OpenSpec.ofChange modelLeastWrong)

/-- 'dustcartlaw04.ModelMore': WHATEVER THE INPUT: true; the input reads as it did. -/
def modelMoreSpec : ChangeSpec := { name := "modelMore", fn := fun _ => fun
  | [d1, d2, d3, d4, d5] => { results := [.lit (.bool true)], args := [d1, d2, d3, d4, d5] }
  | _ => none }
def modelMoreRow : OpenClaim := { program := "ytbiompmklijgoaadoor", sum := "7577c0e13b727bc0126d7dbb1fd248a49447c9fab8ce4739876a0c1c1c43ff5e", func := "dustcart/dustcartlaw04.ModelMore", spec := "modelMore", unfollowed := true, recurses := true, named := ["dustcart/model.loose"], apart := false, laid := [("dustcart/model.loose", laid_dustcart_model_loose)] }
def ModelMoreSaid : Prop := modelMoreRow.holds Tryd.pinned (OpenSpec.ofChange modelMoreSpec)

/-- ITS FALSE NEIGHBOUR: 'it returns false'. Refute it at one input. -/
def modelMoreWrong : ChangeSpec := { name := "modelMore", fn := fun _ => fun
  | [d1, d2, d3, d4, d5] => { results := [.lit (.bool false)], args := [d1, d2, d3, d4, d5] }
  | _ => none }
def ModelMoreWrongFalsely : Prop := modelMoreRow.holds Tryd.pinned (OpenSpec.ofChange modelMoreWrong)

/-- 'dustcartlaw04.ModelCollects': WHATEVER THE INPUT: true; the input reads as it did. -/
def modelCollectsSpec : ChangeSpec := { name := "modelCollects", fn := fun _ => fun
  | [d1, d2] => { results := [.lit (.bool true)], args := [d1, d2] }
  | _ => none }
def modelCollectsRow : OpenClaim := { program := "ytbiompmklijgoaadoor", sum := "7577c0e13b727bc0126d7dbb1fd248a49447c9fab8ce4739876a0c1c1c43ff5e", func := "dustcart/dustcartlaw04.ModelCollects", spec := "modelCollects", unfollowed := true, recurses := true, named := ["dustcart/model.loose"], apart := false, laid := [("dustcart/model.loose", laid_dustcart_model_loose)] }
def ModelCollectsSaid : Prop := modelCollectsRow.holds Tryd.pinned (OpenSpec.ofChange modelCollectsSpec)

/-- ITS FALSE NEIGHBOUR: 'it returns false'. Refute it at one input. -/
def modelCollectsWrong : ChangeSpec := { name := "modelCollects", fn := fun _ => fun
  | [d1, d2] => { results := [.lit (.bool false)], args := [d1, d2] }
  | _ => none }
def ModelCollectsWrongFalsely : Prop := modelCollectsRow.holds Tryd.pinned (OpenSpec.ofChange modelCollectsWrong)

/-- 'dustcartlaw04.ModelTold': WHATEVER THE INPUT: true; the input reads as it did. -/
def modelToldSpec : ChangeSpec := { name := "modelTold", fn := fun _ => fun
  | [d1, d2, d3] => { results := [.lit (.bool true)], args := [d1, d2, d3] }
  | _ => none }
def modelToldRow : OpenClaim := { program := "ytbiompmklijgoaadoor", sum := "7577c0e13b727bc0126d7dbb1fd248a49447c9fab8ce4739876a0c1c1c43ff5e", func := "dustcart/dustcartlaw04.ModelTold", spec := "modelTold", unfollowed := true, recurses := true, named := ["dustcart/model.loose"], apart := false, laid := [("dustcart/model.loose", laid_dustcart_model_loose)] }
def ModelToldSaid : Prop := modelToldRow.holds Tryd.pinned (OpenSpec.ofChange modelToldSpec)

/-- ITS FALSE NEIGHBOUR: 'it returns false'. Refute it at one input. -/
def modelToldWrong : ChangeSpec := { name := "modelTold", fn := fun _ => fun
  | [d1, d2, d3] => { results := [.lit (.bool false)], args := [d1, d2, d3] }
  | _ => none }
def ModelToldWrongFalsely : Prop := modelToldRow.holds Tryd.pinned (OpenSpec.ofChange modelToldWrong)

/-- 'dustcartlaw04.ModelRefused': WHATEVER THE INPUT: true; the input reads as it did. -/
def modelRefusedSpec : ChangeSpec := { name := "modelRefused", fn := fun _ => fun
  | [d1, d2, d3] => { results := [.lit (.bool true)], args := [d1, d2, d3] }
  | _ => none }
def modelRefusedRow : OpenClaim := { program := "ytbiompmklijgoaadoor", sum := "7577c0e13b727bc0126d7dbb1fd248a49447c9fab8ce4739876a0c1c1c43ff5e", func := "dustcart/dustcartlaw04.ModelRefused", spec := "modelRefused", unfollowed := true, recurses := true, named := ["dustcart/model.loose"], apart := false, laid := [("dustcart/model.loose", laid_dustcart_model_loose)] }
def ModelRefusedSaid : Prop := modelRefusedRow.holds Tryd.pinned (OpenSpec.ofChange modelRefusedSpec)

/-- ITS FALSE NEIGHBOUR: 'it returns false'. Refute it at one input. -/
def modelRefusedWrong : ChangeSpec := { name := "modelRefused", fn := fun _ => fun
  | [d1, d2, d3] => { results := [.lit (.bool false)], args := [d1, d2, d3] }
  | _ => none }
def ModelRefusedWrongFalsely : Prop := modelRefusedRow.holds Tryd.pinned (OpenSpec.ofChange modelRefusedWrong)

/-- 'dustcartlaw04.ModelClones': WHATEVER THE INPUT: true; the input reads as it did. -/
def modelClonesSpec : ChangeSpec := { name := "modelClones", fn := fun _ => fun
  | [d1, d2, d3, d4] => { results := [.lit (.bool true)], args := [d1, d2, d3, d4] }
  | _ => none }
def modelClonesRow : OpenClaim := { program := "ytbiompmklijgoaadoor", sum := "7577c0e13b727bc0126d7dbb1fd248a49447c9fab8ce4739876a0c1c1c43ff5e", func := "dustcart/dustcartlaw04.ModelClones", spec := "modelClones", unfollowed := true, recurses := true, named := ["dustcart/model.loose"], apart := false, laid := [("dustcart/model.loose", laid_dustcart_model_loose)] }
def ModelClonesSaid : Prop := modelClonesRow.holds Tryd.pinned (OpenSpec.ofChange modelClonesSpec)

/-- ITS FALSE NEIGHBOUR: 'it returns false'. Refute it at one input. -/
def modelClonesWrong : ChangeSpec := { name := "modelClones", fn := fun _ => fun
  | [d1, d2, d3, d4] => { results := [.lit (.bool false)], args := [d1, d2, d3, d4] }
  | _ => none }
def ModelClonesWrongFalsely : Prop := modelClonesRow.holds Tryd.pinned (OpenSpec.ofChange modelClonesWrong)

/- THE SECOND FORM. 'bulk': how many values and letters a reading holds, each counted each time it is reached (what is shared counts as often as it is met; a slice's spare places count too). A statement '..UptoSaid' is the law's where the arguments, and the package variables that the reading takes, are together of bulk at most 1048576: NARROWER than '..Said'. Prove '..Said' where nothing that the law and all that it calls make is longer than what came in: it says more and counts as full. Else prove '..UptoSaid'. A law counts once. -/
mutual
def uptoBulk {H : Type} : DataW H → Nat
  | .lit (.string bytes) => bytes.length + 1
  | .lit _ => 1
  | .nil => 1
  | .ptr d => uptoBulk d + 1
  | .slice elems spare => uptoBulkAll elems + uptoBulkAll spare + 1
  | .agg parts => uptoBulkAll parts + 1
  | .iface _ d => uptoBulk d + 1
  | .map entries => uptoBulkEntries entries + 1
  | .held _ => 1
def uptoBulkAll {H : Type} : List (DataW H) → Nat
  | [] => 0
  | d :: r => uptoBulk d + uptoBulkAll r
def uptoBulkEntries {H : Type} : List (Lit × DataW H) → Nat
  | [] => 0
  | x :: r => uptoBulkEntry x + uptoBulkEntries r
def uptoBulkEntry {H : Type} : Lit × DataW H → Nat
  | (.string bytes, d) => bytes.length + uptoBulk d + 1
  | (_, d) => uptoBulk d + 1
 end
def uptoSmall : (H : Type) → List (DataW H) → Bool := fun _ ds => decide (uptoBulkAll ds ≤ 1048576)
def OpenSpec.upto (s : _root_.Go.ChangeSpec) : _root_.Go.OpenSpec := { _root_.Go.OpenSpec.ofChange s with cond := some uptoSmall }

/-- 'dustcartlaw04.ModelPlays', WHERE WHAT IT READS IS OF BULK AT MOST 1048576: true; the input reads as it did. -/
def modelPlaysUptoRow : OpenClaim := { program := "ytbiompmklijgoaadoor", sum := "7577c0e13b727bc0126d7dbb1fd248a49447c9fab8ce4739876a0c1c1c43ff5e", func := "dustcart/dustcartlaw04.ModelPlays", spec := "modelPlays", unfollowed := true, recurses := true, named := ["dustcart/model.loose"], apart := false, laid := [("dustcart/model.loose", laid_dustcart_model_loose)], narrowed := true }
def ModelPlaysUptoSaid : Prop := modelPlaysUptoRow.holds Tryd.pinned (OpenSpec.upto modelPlaysSpec)

/-- 'dustcartlaw04.ModelNone', WHERE WHAT IT READS IS OF BULK AT MOST 1048576: true; the input reads as it did. -/
def modelNoneUptoRow : OpenClaim := { program := "ytbiompmklijgoaadoor", sum := "7577c0e13b727bc0126d7dbb1fd248a49447c9fab8ce4739876a0c1c1c43ff5e", func := "dustcart/dustcartlaw04.ModelNone", spec := "modelNone", unfollowed := true, recurses := true, named := ["dustcart/model.loose"], apart := false, laid := [("dustcart/model.loose", laid_dustcart_model_loose)], narrowed := true }
def ModelNoneUptoSaid : Prop := modelNoneUptoRow.holds Tryd.pinned (OpenSpec.upto modelNoneSpec)

/-- 'dustcartlaw04.ModelNever', WHERE WHAT IT READS IS OF BULK AT MOST 1048576: true; the input reads as it did. -/
def modelNeverUptoRow : OpenClaim := { program := "ytbiompmklijgoaadoor", sum := "7577c0e13b727bc0126d7dbb1fd248a49447c9fab8ce4739876a0c1c1c43ff5e", func := "dustcart/dustcartlaw04.ModelNever", spec := "modelNever", unfollowed := true, recurses := true, named := ["dustcart/model.loose"], apart := false, laid := [("dustcart/model.loose", laid_dustcart_model_loose)], narrowed := true }
def ModelNeverUptoSaid : Prop := modelNeverUptoRow.holds Tryd.pinned (OpenSpec.upto modelNeverSpec)

/-- 'dustcartlaw04.ModelLeast', WHERE WHAT IT READS IS OF BULK AT MOST 1048576: true; the input reads as it did. -/
def modelLeastUptoRow : OpenClaim := { program := "ytbiompmklijgoaadoor", sum := "7577c0e13b727bc0126d7dbb1fd248a49447c9fab8ce4739876a0c1c1c43ff5e", func := "dustcart/dustcartlaw04.ModelLeast", spec := "modelLeast", unfollowed := true, recurses := true, named := ["dustcart/model.loose"], apart := false, laid := [("dustcart/model.loose", laid_dustcart_model_loose)], narrowed := true }
def ModelLeastUptoSaid : Prop := modelLeastUptoRow.holds Tryd.pinned (OpenSpec.upto modelLeastSpec)

/-- 'dustcartlaw04.ModelMore', WHERE WHAT IT READS IS OF BULK AT MOST 1048576: true; the input reads as it did. -/
def modelMoreUptoRow : OpenClaim := { program := "ytbiompmklijgoaadoor", sum := "7577c0e13b727bc0126d7dbb1fd248a49447c9fab8ce4739876a0c1c1c43ff5e", func := "dustcart/dustcartlaw04.ModelMore", spec := "modelMore", unfollowed := true, recurses := true, named := ["dustcart/model.loose"], apart := false, laid := [("dustcart/model.loose", laid_dustcart_model_loose)], narrowed := true }
def ModelMoreUptoSaid : Prop := modelMoreUptoRow.holds Tryd.pinned (OpenSpec.upto modelMoreSpec)

/-- 'dustcartlaw04.ModelCollects', WHERE WHAT IT READS IS OF BULK AT MOST 1048576: true; the input reads as it did. -/
def modelCollectsUptoRow : OpenClaim := { program := "ytbiompmklijgoaadoor", sum := "7577c0e13b727bc0126d7dbb1fd248a49447c9fab8ce4739876a0c1c1c43ff5e", func := "dustcart/dustcartlaw04.ModelCollects", spec := "modelCollects", unfollowed := true, recurses := true, named := ["dustcart/model.loose"], apart := false, laid := [("dustcart/model.loose", laid_dustcart_model_loose)], narrowed := true }
def ModelCollectsUptoSaid : Prop := modelCollectsUptoRow.holds Tryd.pinned (OpenSpec.upto modelCollectsSpec)

/-- 'dustcartlaw04.ModelTold', WHERE WHAT IT READS IS OF BULK AT MOST 1048576: true; the input reads as it did. -/
def modelToldUptoRow : OpenClaim := { program := "ytbiompmklijgoaadoor", sum := "7577c0e13b727bc0126d7dbb1fd248a49447c9fab8ce4739876a0c1c1c43ff5e", func := "dustcart/dustcartlaw04.ModelTold", spec := "modelTold", unfollowed := true, recurses := true, named := ["dustcart/model.loose"], apart := false, laid := [("dustcart/model.loose", laid_dustcart_model_loose)], narrowed := true }
def ModelToldUptoSaid : Prop := modelToldUptoRow.holds Tryd.pinned (OpenSpec.upto modelToldSpec)

/-- 'dustcartlaw04.ModelRefused', WHERE WHAT IT READS IS OF BULK AT MOST 1048576: true; the input reads as it did. -/
def modelRefusedUptoRow : OpenClaim := { program := "ytbiompmklijgoaadoor", sum := "7577c0e13b727bc0126d7dbb1fd248a49447c9fab8ce4739876a0c1c1c43ff5e", func := "dustcart/dustcartlaw04.ModelRefused", spec := "modelRefused", unfollowed := true, recurses := true, named := ["dustcart/model.loose"], apart := false, laid := [("dustcart/model.loose", laid_dustcart_model_loose)], narrowed := true }
def ModelRefusedUptoSaid : Prop := modelRefusedUptoRow.holds Tryd.pinned (OpenSpec.upto modelRefusedSpec)

/-- 'dustcartlaw04.ModelClones', WHERE WHAT IT READS IS OF BULK AT MOST 1048576: true; the input reads as it did. -/
def modelClonesUptoRow : OpenClaim := { program := "ytbiompmklijgoaadoor", sum := "7577c0e13b727bc0126d7dbb1fd248a49447c9fab8ce4739876a0c1c1c43ff5e", func := "dustcart/dustcartlaw04.ModelClones", spec := "modelClones", unfollowed := true, recurses := true, named := ["dustcart/model.loose"], apart := false, laid := [("dustcart/model.loose", laid_dustcart_model_loose)], narrowed := true }
def ModelClonesUptoSaid : Prop := modelClonesUptoRow.holds Tryd.pinned (OpenSpec.upto modelClonesSpec)

end Rows
end Go.Proofs.YtbiompmklijgoaaDoor
