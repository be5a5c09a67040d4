/- Proved: called with any command, the law FnExactCmdText returns true (the program's CmdText answers as the model does and writes into no argument); the tables of the library and of the program lie as the card ties them; no condition of our own. -/
import Derived.Test.YtjogclofjollnaaGreatDoorCards
import Derived.Test.YtjogclofjollnaaGreatDoorTie
import Derived.Test.YtjogclofjollnaaGreatDoorJfzToApp
import Derived.Test.YtjogclofjollnaaGreatDoorTmuToRgS
import Derived.Test.YtjogclofjollnaaGreatDoorCmt
import Derived.Test.YtjogclofjollnaaGreatDoorCmuToCfp
import Derived.Test.YtjogclofjollnaaGreatDoorCtr
import Derived.Test.YtjogclofjollnaaGreatDoorCtbToCfq
import Derived.LaidHandle
import Derived.Lay
import Derived.WalkKit
import Derived.ProofKit
import Derived.OpenShut
import Derived.ShutString
import Derived.ChangeOld
import Derived.Below
import Derived.LaidMore
import Derived.OpenVars
import Derived.Stop.Joined
import Derived.Lib.LaidTab
import Derived.Stop.LaidErr
namespace Go.Proofs.YtjogclofjollnaaGreatDoor.fnExactCmdText
open Go.ChangeShapes Go.WideShapes Go.ChangeAt Go.WideMaps Go.WideElems Go.RowKit
open Go.ChangeMaps (open_string shut_string)
set_option linter.unusedVariables false
theorem own : ownKnob Tryz.prog.godebug = none := jzOwn
theorem laidOut : laidOutB Tryz.prog = true := jz2
theorem gtW : (Tryz.prog.globals[11]?).map (·.type) = some 217 := by kernel_rfl
theorem cW : Tryz.prog.cellsOf 217 = 20 := by kernel_rfl
theorem gB : Tryz.prog.globalNamed "loop.example/g00447/impl.baseDigits" = some 7 := by kernel_rfl
theorem gtB : (Tryz.prog.globals[7]?).map (·.type) = some 169 := by kernel_rfl
theorem cB : Tryz.prog.cellsOf 169 = 64 := by kernel_rfl
theorem gF : Tryz.prog.globalNamed "loop.example/g00447/impl.flagWords" = some 9 := by kernel_rfl
theorem gtF : (Tryz.prog.globals[9]?).map (·.type) = some 103 := by kernel_rfl
theorem cF : Tryz.prog.cellsOf 103 = 4 := by kernel_rfl
theorem gT : Tryz.prog.globalNamed "loop.example/g00447/impl.termWords" = some 8 := by kernel_rfl
theorem gtT : (Tryz.prog.globals[8]?).map (·.type) = some 210 := by kernel_rfl
theorem cT : Tryz.prog.cellsOf 210 = 12 := by kernel_rfl
theorem gN : Tryz.prog.globalNamed "loop.example/g00447/impl.kindTells" = some 1 := by kernel_rfl
theorem gtN : (Tryz.prog.globals[1]?).map (·.type) = some 99 := by kernel_rfl
theorem cN : Tryz.prog.cellsOf 99 = 15 := by kernel_rfl
theorem gC : Tryz.prog.globalNamed "loop.example/g00447/impl.cmdWords" = some 0 := by kernel_rfl
theorem gtC : (Tryz.prog.globals[0]?).map (·.type) = some 78 := by kernel_rfl
theorem cC : Tryz.prog.cellsOf 78 = 15 := by kernel_rfl
theorem gM : Tryz.prog.globalNamed "loop.example/g00447/impl.modeWords" = some 2 := by kernel_rfl
theorem gtM : (Tryz.prog.globals[2]?).map (·.type) = some 103 := by kernel_rfl
theorem cM : Tryz.prog.cellsOf 103 = 4 := by kernel_rfl
theorem gH : Tryz.prog.globalNamed "loop.example/g00447/impl.whatWords" = some 3 := by kernel_rfl
theorem gtH : (Tryz.prog.globals[3]?).map (·.type) = some 104 := by kernel_rfl
theorem cH : Tryz.prog.cellsOf 104 = 8 := by kernel_rfl
theorem gE : Tryz.prog.globalNamed "loop.example/g00447/impl.keyWords" = some 4 := by kernel_rfl
theorem gtE : (Tryz.prog.globals[4]?).map (·.type) = some 103 := by kernel_rfl
theorem cE : Tryz.prog.cellsOf 103 = 4 := by kernel_rfl
theorem gK : Tryz.prog.globalNamed "loop.example/g00447/impl.comparatorNames" = some 5 := by kernel_rfl
theorem gtK : (Tryz.prog.globals[5]?).map (·.type) = some 107 := by kernel_rfl
theorem cK : Tryz.prog.cellsOf 107 = 3 := by kernel_rfl
theorem cellsS : Tryz.prog.cellsOf 9 = 1 := by kernel_rfl
theorem cellsU : Tryz.prog.cellsOf 203 = 1 := by kernel_rfl
theorem cellsB : Tryz.prog.cellsOf 5 = 1 := by kernel_rfl
theorem cellsI : Tryz.prog.cellsOf 2 = 1 := by kernel_rfl
def listed : List (String × DataW Unit) := [("math/bits.deBruijn32tab", Rows.laid_math_bits_deBruijn32tab), ("math/bits.deBruijn64tab", Rows.laid_math_bits_deBruijn64tab), ("internal/strconv.uint64pow10", Rows.laid_internal_strconv_uint64pow10), ("loop.example/g00447/impl.baseDigits", Rows.laid_loop_example_g00447_impl_baseDigits), ("loop.example/g00447/impl.comparatorNames", Rows.laid_loop_example_g00447_impl_comparatorNames), ("loop.example/g00447/impl.flagWords", Rows.laid_loop_example_g00447_impl_flagWords), ("loop.example/g00447/impl.termWords", Rows.laid_loop_example_g00447_impl_termWords), ("loop.example/g00447/impl.keyWords", Rows.laid_loop_example_g00447_impl_keyWords), ("loop.example/g00447/impl.kindTells", Rows.laid_loop_example_g00447_impl_kindTells), ("loop.example/g00447/impl.cmdWords", Rows.laid_loop_example_g00447_impl_cmdWords), ("loop.example/g00447/impl.modeWords", Rows.laid_loop_example_g00447_impl_modeWords), ("loop.example/g00447/impl.whatWords", Rows.laid_loop_example_g00447_impl_whatWords)]
noncomputable def start (os : Os) : World := (World.doorLaid Tryz.prog 400 os).layVars Tryz.prog listed
theorem door_met (os : Os) (args : Array Value) : laidMetH Tryz.prog Rows.fnExactCmdTextRow.laid ((start os).forCall (fun _ _ => 0) ⟨#[], args, []⟩).memory := by
 have e1 : (listed.filter fun x => (listed.map (·.1)).contains x.1) = listed := List.filter_eq_self.2 fun x hx => List.contains_iff_mem.2 (List.mem_map.2 ⟨x, hx, rfl⟩)
 have e2 : (listed.filter fun x => !(listed.map (·.1)).contains x.1) = [] := List.filter_eq_nil_iff.2 fun x hx => by rw [List.contains_iff_mem.2 (List.mem_map.2 ⟨x, hx, rfl⟩)]; simp
 have h : laidMet Tryz.prog listed (start os) := laidMet_layVars (w0 := World.doorLaid Tryz.prog 400 os) (listed.map (·.1)) [] (by rw [e1]; rfl) (by rw [e1]; kernel_rfl) (by rw [e1]; kernel_rfl) (by rw [e2]; exact LaidIn.none)
 exact laidMetH_of_parts3 (fuel := 8) (h.of_heap (by simp [World.memory, World.forCall, Input.heap])) (by kernel_rfl) (by kernel_rfl)
def byC : List (List UInt8) := [[], [110, 111, 111, 112], [109, 97, 107, 101], [101, 114, 97, 115, 101], [115, 101, 108, 101, 99, 116], [99, 108, 111, 115, 101], [97, 100, 100], [102, 108, 97, 103], [99, 111, 112, 121], [109, 111, 118, 101], [112, 117, 114, 103, 101], [102, 101, 116, 99, 104], [115, 101, 97, 114, 99, 104], [115, 111, 114, 116], [99, 111, 109, 112, 97, 114, 101]]
theorem byC_str : ∀ v : Nat, v < 15 → txt (byC.getD v []) = str (wdJ cwZ v) := by
 intro v hv
 have h' : v = 0 ∨ v = 1 ∨ v = 2 ∨ v = 3 ∨ v = 4 ∨ v = 5 ∨ v = 6 ∨ v = 7 ∨ v = 8 ∨ v = 9 ∨ v = 10 ∨ v = 11 ∨ v = 12 ∨ v = 13 ∨ v = 14 := by omega
 rcases h' with rfl | rfl | rfl | rfl | rfl | rfl | rfl | rfl | rfl | rfl | rfl | rfl | rfl | rfl | rfl
 all_goals rfl
def byM : List (List UInt8) := [[], [115, 101, 116], [109, 111, 114, 101], [108, 101, 115, 115]]
theorem byM_str : ∀ v : Nat, v < 4 → txt (byM.getD v []) = str (wdJ mwZ v) := by
 intro v hv
 have h' : v = 0 ∨ v = 1 ∨ v = 2 ∨ v = 3 := by omega
 rcases h' with rfl | rfl | rfl | rfl
 all_goals rfl
def byH : List (List UInt8) := [[], [102, 108, 97, 103, 115], [115, 105, 122, 101], [98, 111, 100, 121], [98, 121, 116, 101, 115], [116, 101, 120, 116], [112, 114, 101, 118, 105, 101, 119], [115, 117, 98, 106, 101, 99, 116]]
theorem byH_str : ∀ v : Nat, v < 8 → txt (byH.getD v []) = str (wdJ hwZ v) := by
 intro v hv
 have h' : v = 0 ∨ v = 1 ∨ v = 2 ∨ v = 3 ∨ v = 4 ∨ v = 5 ∨ v = 6 ∨ v = 7 := by omega
 rcases h' with rfl | rfl | rfl | rfl | rfl | rfl | rfl | rfl
 all_goals rfl
def byE : List (List UInt8) := [[100, 97, 116, 101], [115, 105, 122, 101], [115, 117, 98, 106, 101, 99, 116], [97, 114, 114, 105, 118, 97, 108]]
theorem byE_str : ∀ v : Nat, v < 4 → txt (byE.getD v []) = str (wdJ ewZ v) := by
 intro v hv
 have h' : v = 0 ∨ v = 1 ∨ v = 2 ∨ v = 3 := by omega
 rcases h' with rfl | rfl | rfl | rfl
 all_goals rfl
def byK : List (List UInt8) := [[105, 59, 111, 99, 116, 101, 116], [105, 59, 97, 115, 99, 105, 105, 45, 99, 97, 115, 101, 109, 97, 112], [105, 59, 117, 110, 105, 99, 111, 100, 101, 45, 99, 97, 115, 101, 109, 97, 112]]
theorem byK_str : ∀ v : Nat, v < 3 → txt (byK.getD v []) = str (wdJ nwZ v) := by
 intro v hv
 have h' : v = 0 ∨ v = 1 ∨ v = 2 := by omega
 rcases h' with rfl | rfl | rfl
 all_goals rfl
def byT : List (List UInt8) := [[], [97, 108, 108], [102, 108, 97, 103], [115, 105, 110, 99, 101], [98, 101, 102, 111, 114, 101], [108, 97, 114, 103, 101, 114], [115, 117, 98, 106, 101, 99, 116], [98, 111, 100, 121], [117, 105, 100], [110, 111, 116], [97, 110, 100], [111, 114]]
theorem byT_str : ∀ v : Nat, v < 12 → txt (byT.getD v []) = str (twN v) := by
 intro v hv
 have h' : v = 0 ∨ v = 1 ∨ v = 2 ∨ v = 3 ∨ v = 4 ∨ v = 5 ∨ v = 6 ∨ v = 7 ∨ v = 8 ∨ v = 9 ∨ v = 10 ∨ v = 11 := by omega
 rcases h' with rfl | rfl | rfl | rfl | rfl | rfl | rfl | rfl | rfl | rfl | rfl | rfl
 all_goals rfl
theorem met0 {W : World} (h : laidMetH Tryz.prog Rows.fnExactCmdTextRow.laid W) : laidMet Tryz.prog [("math/bits.deBruijn32tab", Rows.laid_math_bits_deBruijn32tab), ("math/bits.deBruijn64tab", Rows.laid_math_bits_deBruijn64tab), ("internal/strconv.uint64pow10", Rows.laid_internal_strconv_uint64pow10), ("loop.example/g00447/impl.baseDigits", Rows.laid_loop_example_g00447_impl_baseDigits), ("loop.example/g00447/impl.comparatorNames", Rows.laid_loop_example_g00447_impl_comparatorNames), ("loop.example/g00447/impl.flagWords", Rows.laid_loop_example_g00447_impl_flagWords), ("loop.example/g00447/impl.termWords", Rows.laid_loop_example_g00447_impl_termWords), ("loop.example/g00447/impl.keyWords", Rows.laid_loop_example_g00447_impl_keyWords), ("loop.example/g00447/impl.kindTells", Rows.laid_loop_example_g00447_impl_kindTells), ("loop.example/g00447/impl.cmdWords", Rows.laid_loop_example_g00447_impl_cmdWords), ("loop.example/g00447/impl.modeWords", Rows.laid_loop_example_g00447_impl_modeWords), ("loop.example/g00447/impl.whatWords", Rows.laid_loop_example_g00447_impl_whatWords)] W := h.1
theorem of_laidW {W : World} (h : laidMetH Tryz.prog Rows.fnExactCmdTextRow.laid W) : TabW W := by
 have h0 := met0 h
 exact Lib.tabIs_of_head (zs := Lib.pow10Tab) (rest := [("loop.example/g00447/impl.baseDigits", Rows.laid_loop_example_g00447_impl_baseDigits), ("loop.example/g00447/impl.comparatorNames", Rows.laid_loop_example_g00447_impl_comparatorNames), ("loop.example/g00447/impl.flagWords", Rows.laid_loop_example_g00447_impl_flagWords), ("loop.example/g00447/impl.termWords", Rows.laid_loop_example_g00447_impl_termWords), ("loop.example/g00447/impl.keyWords", Rows.laid_loop_example_g00447_impl_keyWords), ("loop.example/g00447/impl.kindTells", Rows.laid_loop_example_g00447_impl_kindTells), ("loop.example/g00447/impl.cmdWords", Rows.laid_loop_example_g00447_impl_cmdWords), ("loop.example/g00447/impl.modeWords", Rows.laid_loop_example_g00447_impl_modeWords), ("loop.example/g00447/impl.whatWords", Rows.laid_loop_example_g00447_impl_whatWords)]) gW gtW Tryz.underlying217 Tryz.underlying203 cellsU cW h0.tail.tail
theorem of_laidB {W : World} (h : laidMetH Tryz.prog Rows.fnExactCmdTextRow.laid W) : TabB W := fun v hv => by
 have h0 := met0 h
 have ht : Lib.TabIs Tryz.prog W "loop.example/g00447/impl.baseDigits" .u8 tabI := Lib.tabIs_of_head (rest := [("loop.example/g00447/impl.comparatorNames", Rows.laid_loop_example_g00447_impl_comparatorNames), ("loop.example/g00447/impl.flagWords", Rows.laid_loop_example_g00447_impl_flagWords), ("loop.example/g00447/impl.termWords", Rows.laid_loop_example_g00447_impl_termWords), ("loop.example/g00447/impl.keyWords", Rows.laid_loop_example_g00447_impl_keyWords), ("loop.example/g00447/impl.kindTells", Rows.laid_loop_example_g00447_impl_kindTells), ("loop.example/g00447/impl.cmdWords", Rows.laid_loop_example_g00447_impl_cmdWords), ("loop.example/g00447/impl.modeWords", Rows.laid_loop_example_g00447_impl_modeWords), ("loop.example/g00447/impl.whatWords", Rows.laid_loop_example_g00447_impl_whatWords)]) gB gtB Tryz.underlying169 Tryz.underlying5 cellsB cB h0.tail.tail.tail
 rw [ht.cell gB v (by rw [tabI_len]; exact hv), tabI_get v hv]
theorem of_laidF {W : World} (h : laidMetH Tryz.prog Rows.fnExactCmdTextRow.laid W) : TabF W := fun v hv => by
 have h0 := met0 h
 have ht : StrsAre Tryz.prog W "loop.example/g00447/impl.flagWords" flZ := strsAre_of_head (rest := [("loop.example/g00447/impl.termWords", Rows.laid_loop_example_g00447_impl_termWords), ("loop.example/g00447/impl.keyWords", Rows.laid_loop_example_g00447_impl_keyWords), ("loop.example/g00447/impl.kindTells", Rows.laid_loop_example_g00447_impl_kindTells), ("loop.example/g00447/impl.cmdWords", Rows.laid_loop_example_g00447_impl_cmdWords), ("loop.example/g00447/impl.modeWords", Rows.laid_loop_example_g00447_impl_modeWords), ("loop.example/g00447/impl.whatWords", Rows.laid_loop_example_g00447_impl_whatWords)]) gF gtF Tryz.underlying103 Tryz.underlying9 cellsS cF h0.tail.tail.tail.tail.tail
 exact ht.cell gF v hv
theorem of_laidT0 {W : World} (h : laidMetH Tryz.prog Rows.fnExactCmdTextRow.laid W) : TabT W := fun v hv => by
 have h0 := met0 h
 have ht : StrsAre Tryz.prog W "loop.example/g00447/impl.termWords" byT := strsAre_of_head (rest := [("loop.example/g00447/impl.keyWords", Rows.laid_loop_example_g00447_impl_keyWords), ("loop.example/g00447/impl.kindTells", Rows.laid_loop_example_g00447_impl_kindTells), ("loop.example/g00447/impl.cmdWords", Rows.laid_loop_example_g00447_impl_cmdWords), ("loop.example/g00447/impl.modeWords", Rows.laid_loop_example_g00447_impl_modeWords), ("loop.example/g00447/impl.whatWords", Rows.laid_loop_example_g00447_impl_whatWords)]) gT gtT Tryz.underlying210 Tryz.underlying9 cellsS cT h0.tail.tail.tail.tail.tail.tail
 rw [← byT_str v hv]
 exact ht.cell gT v hv
theorem of_laidN {W : World} (h : laidMetH Tryz.prog Rows.fnExactCmdTextRow.laid W) : TabN W := fun v hv => by
 have h0 := met0 h
 have ht : Lib.TabIs Tryz.prog W "loop.example/g00447/impl.kindTells" .i64 ktZ := Lib.tabIs_of_head (rest := [("loop.example/g00447/impl.cmdWords", Rows.laid_loop_example_g00447_impl_cmdWords), ("loop.example/g00447/impl.modeWords", Rows.laid_loop_example_g00447_impl_modeWords), ("loop.example/g00447/impl.whatWords", Rows.laid_loop_example_g00447_impl_whatWords)]) gN gtN Tryz.underlying99 Tryz.underlying2 cellsI cN h0.tail.tail.tail.tail.tail.tail.tail.tail
 rw [ht.cell gN v hv]
 rfl
theorem of_laidC {W : World} (h : laidMetH Tryz.prog Rows.fnExactCmdTextRow.laid W) : TbJ 0 cwZ W := fun v hv => by
 have h0 := met0 h
 have ht : StrsAre Tryz.prog W "loop.example/g00447/impl.cmdWords" byC := strsAre_of_head (rest := [("loop.example/g00447/impl.modeWords", Rows.laid_loop_example_g00447_impl_modeWords), ("loop.example/g00447/impl.whatWords", Rows.laid_loop_example_g00447_impl_whatWords)]) gC gtC Tryz.underlying78 Tryz.underlying9 cellsS cC h0.tail.tail.tail.tail.tail.tail.tail.tail.tail
 rw [← byC_str v hv]
 exact ht.cell gC v hv
theorem of_laidM {W : World} (h : laidMetH Tryz.prog Rows.fnExactCmdTextRow.laid W) : TbJ 2 mwZ W := fun v hv => by
 have h0 := met0 h
 have ht : StrsAre Tryz.prog W "loop.example/g00447/impl.modeWords" byM := strsAre_of_head (rest := [("loop.example/g00447/impl.whatWords", Rows.laid_loop_example_g00447_impl_whatWords)]) gM gtM Tryz.underlying103 Tryz.underlying9 cellsS cM h0.tail.tail.tail.tail.tail.tail.tail.tail.tail.tail
 rw [← byM_str v hv]
 exact ht.cell gM v hv
theorem of_laidH {W : World} (h : laidMetH Tryz.prog Rows.fnExactCmdTextRow.laid W) : TbJ 3 hwZ W := fun v hv => by
 have h0 := met0 h
 have ht : StrsAre Tryz.prog W "loop.example/g00447/impl.whatWords" byH := strsAre_of_head (rest := []) gH gtH Tryz.underlying104 Tryz.underlying9 cellsS cH h0.tail.tail.tail.tail.tail.tail.tail.tail.tail.tail.tail
 rw [← byH_str v hv]
 exact ht.cell gH v hv
theorem of_laidE {W : World} (h : laidMetH Tryz.prog Rows.fnExactCmdTextRow.laid W) : TbJ 4 ewZ W := fun v hv => by
 have h0 := met0 h
 have ht : StrsAre Tryz.prog W "loop.example/g00447/impl.keyWords" byE := strsAre_of_head (rest := [("loop.example/g00447/impl.kindTells", Rows.laid_loop_example_g00447_impl_kindTells), ("loop.example/g00447/impl.cmdWords", Rows.laid_loop_example_g00447_impl_cmdWords), ("loop.example/g00447/impl.modeWords", Rows.laid_loop_example_g00447_impl_modeWords), ("loop.example/g00447/impl.whatWords", Rows.laid_loop_example_g00447_impl_whatWords)]) gE gtE Tryz.underlying103 Tryz.underlying9 cellsS cE h0.tail.tail.tail.tail.tail.tail.tail
 rw [← byE_str v hv]
 exact ht.cell gE v hv
theorem of_laidK {W : World} (h : laidMetH Tryz.prog Rows.fnExactCmdTextRow.laid W) : TbJ 5 nwZ W := fun v hv => by
 have h0 := met0 h
 have ht : StrsAre Tryz.prog W "loop.example/g00447/impl.comparatorNames" byK := strsAre_of_head (rest := [("loop.example/g00447/impl.flagWords", Rows.laid_loop_example_g00447_impl_flagWords), ("loop.example/g00447/impl.termWords", Rows.laid_loop_example_g00447_impl_termWords), ("loop.example/g00447/impl.keyWords", Rows.laid_loop_example_g00447_impl_keyWords), ("loop.example/g00447/impl.kindTells", Rows.laid_loop_example_g00447_impl_kindTells), ("loop.example/g00447/impl.cmdWords", Rows.laid_loop_example_g00447_impl_cmdWords), ("loop.example/g00447/impl.modeWords", Rows.laid_loop_example_g00447_impl_modeWords), ("loop.example/g00447/impl.whatWords", Rows.laid_loop_example_g00447_impl_whatWords)]) gK gtK Tryz.underlying107 Tryz.underlying9 cellsS cK h0.tail.tail.tail.tail
 rw [← byK_str v hv]
 exact ht.cell gK v hv
theorem etT : Tryz.prog.globalNamed "errors.errorType" = some 6 := by kernel_rfl
theorem rtT : (Tryz.prog.cutTypes.find? (·.1 == "internal/reflectlite.rtype")).map (·.2) = some 146 := by kernel_rfl
theorem sizeT : Tryz.prog.types.size = 263 := by kernel_rfl
theorem oneRowT : ((List.range 263).filter fun t => Tryz.prog.rowNamed t [101, 114, 114, 111, 114]) = [52] := by kernel_rfl
theorem of_laidT {W : World} (h : laidMetH Tryz.prog Rows.fnExactCmdTextRow.laid W) : VarT W := by
 obtain ⟨name, u, ty, e1, e2, e3, e4, e5⟩ := h.2 _ (List.mem_cons_self ..)
 have en : name = [101, 114, 114, 111, 114] := (Option.some.inj e1).symm
 subst en
 obtain rfl := Option.some.inj (rtT.symm.trans e2)
 have hm : ty ∈ (List.range 263).filter fun t => Tryz.prog.rowNamed t [101, 114, 114, 111, 114] := List.mem_filter.2 ⟨List.mem_range.2 (by rw [← sizeT]; exact e3), e4⟩
 rw [oneRowT] at hm
 obtain rfl := List.mem_singleton.1 hm
 have hh : typeHandle Tryz.prog 52 = .pointer (some ⟨14, 52, none⟩) := by kernel_rfl
 rw [hh] at e5
 unfold VarT
 simpa using World.var?_cell etT e5 0
theorem tabs {W : World} (h : laidMetH Tryz.prog Rows.fnExactCmdTextRow.laid W) : TbsJ W := ⟨of_laidW h, of_laidB h, of_laidT0 h, of_laidF h, of_laidN h, of_laidT h, of_laidC h, of_laidM h, of_laidH h, of_laidE h, of_laidK h⟩
/-! ### THE WALK -/
set_option maxHeartbeats 3200000 in
set_option maxRecDepth 100000 in
theorem walk (m0 : CmR) (q0 : SlC) (w : World) (w0 : IsCm 0 w q0 m0 ∧ OkC m0) (hT : TbsJ w) :
  Calls Tryz.prog 3 #[cmX m0 q0] w fun e w' => e = .returned (.bool true) ∧ Below w.heap.size w w' := by
 obtain ⟨w0, hok⟩ := w0
 have HTT : Hid (TbsJ w) := hT
 clear hT
 have hA0 : Below w.heap.size w (w.alloc (.cells #[.string m0.t, .int .i64 m0.k, .string m0.n, slW q0.1, .int .i64 m0.m, .int .i64 m0.f, .int .i64 m0.d, slW q0.2.1, .int .i64 m0.h, slW q0.2.2.1, .int .i64 m0.e, .bool m0.r, slW q0.2.2.2, .int .i64 m0.c] 27)) := (Below.refl _ _).alloc (Nat.le_refl _) _
 have hZ0 := Qm.new w (.string m0.t) (.int .i64 m0.k) (.string m0.n) (slW q0.1) (.int .i64 m0.m) (.int .i64 m0.f) (.int .i64 m0.d) (slW q0.2.1) (.int .i64 m0.h) (slW q0.2.2.1) (.int .i64 m0.e) (.bool m0.r) (slW q0.2.2.2) (.int .i64 m0.c) 27
 have hw0 := w0.below hA0
 have hG : w.heap.size < (w.alloc (.cells #[.string m0.t, .int .i64 m0.k, .string m0.n, slW q0.1, .int .i64 m0.m, .int .i64 m0.f, .int .i64 m0.d, slW q0.2.1, .int .i64 m0.h, slW q0.2.2.1, .int .i64 m0.e, .bool m0.r, slW q0.2.2.2, .int .i64 m0.c] 27)).heap.size := by simp
 have HSP : Hid (∀ (s : SlC) (lo : Nat) (w' : World), IsCm lo w' s m0 → FtC m0 → Calls Tryz.prog 5 #[cmX m0 s] w' fun e w'' => e = .returned (.agg #[.int .i64 (ctV m0).1, .string (str (ctV m0).2)]) ∧ Below w'.heap.size w' w'') := fun s lo w' h1 h2 => specCmdText_any m0 s w' h1 h2
 have HIM : Hid (∀ (s : SlC) (lo : Nat) (w' : World), IsCm lo w' s m0 → FtC m0 → TbsJ w' → Calls Tryz.prog 7 #[cmX m0 s] w' fun e w'' => e = .returned (.agg #[.int .i64 (ctV m0).1, .string (str (ctV m0).2)]) ∧ Below w'.heap.size w' w'') := fun s lo w' h1 h2 h3 => cmdText_any m0 s w' h1 h2 h3
 have HEQ : Hid (∀ (c : Int) (s : ByteArray) w, Calls Tryz.prog 8 #[.agg #[.int .i64 c, .string s], .agg #[.int .i64 c, .string s]] w fun e w' => e = .returned (.bool true) ∧ Below w.heap.size w w') := eqTextResult_y
 generalize (ctV m0).1 = cc at *
 generalize str (ctV m0).2 = sx at *
 go_enter Tryz.func3, Tryz.ntmps3
 go_wp2_with fail
 generalize (w.alloc (.cells #[.string m0.t, .int .i64 m0.k, .string m0.n, slW q0.1, .int .i64 m0.m, .int .i64 m0.f, .int .i64 m0.d, slW q0.2.1, .int .i64 m0.h, slW q0.2.2.1, .int .i64 m0.e, .bool m0.r, slW q0.2.2.2, .int .i64 m0.c] 27)) = W0 at *
 refine (szCmd_ft m0 q0 1048576 W0 (by omega) (by omega) hw0 hok).mono ?_
 rintro e w1 ⟨r, rfl, hcase, hb1⟩
 have hB1 := hA0.trans (hb1.mono hA0.size)
 rcases hcase with rfl | ⟨r0, -, hn⟩
 ·go_wp2
  go_ret
  exact ⟨rfl, hB1⟩
 ·have hneg : ¬ r < 0 := by omega
  have hr1 := hw0.below hb1
  have hZ1 := hZ0.below hb1 hG
  clear w0 hw0 hA0 hb1 hZ0 hG
  obtain ⟨c0, c1, c2, c3, c4, c5, c6, c7, c8, c9, c10, c11, c12, c13⟩ := id hZ1
  dsimp only at c0 c1 c2 c3 c4 c5 c6 c7 c8 c9 c10 c11 c12 c13
  go_wp2_with fail
  refine (toCmd_ft m0 q0 w1 hr1 hn).mono ?_
  rintro e w2 ⟨s2, rfl, ho2, hb2⟩
  have hB2 : Below w.heap.size w w2 := hB1.trans (hb2.mono hB1.size)
  have hr2 := hr1.below hb2
  have hZ2 := hZ1.below hb2 hZ1.lt
  clear c0 c1 c2 c3 c4 c5 c6 c7 c8 c9 c10 c11 c12 c13 hb2 hr1 hZ1 hB1
  go_wp2_with fail
  refine (HSP.out s2 _ w2 ho2 hn).mono ?_
  rintro e v3 ⟨rfl, hb3'⟩
  have hb3 : Below w2.heap.size w2 (v3.alloc (.cells #[.int .i64 cc, .string sx] 30)) := hb3'.trans ((Below.refl _ _).alloc hb3'.size _)
  have hB3 : Below w.heap.size w (v3.alloc (.cells #[.int .i64 cc, .string sx] 30)) := hB2.trans (hb3.mono hB2.size)
  have hr3 := hr2.below hb3
  have hZ3 := hZ2.below hb3 hZ2.lt
  obtain ⟨k0, k1, -, -⟩ := res_block (w := v3) (wr := v3.alloc (.cells #[.int .i64 cc, .string sx] 30)) rfl (Below.refl _ _)
  have hg3 : v3.heap.size < (v3.alloc (.cells #[.int .i64 cc, .string sx] 30)).heap.size := by simp
  have HK : Hid (∀ W, Below (v3.alloc (.cells #[.int .i64 cc, .string sx] 30)).heap.size (v3.alloc (.cells #[.int .i64 cc, .string sx] 30)) W → W.cell? ⟨v3.heap.size, 0, none⟩ = some (.int .i64 cc) ∧ W.cell? ⟨v3.heap.size, 1, none⟩ = some (.string sx)) := fun W hb => ⟨(hb.cell (p := ⟨v3.heap.size, 0, none⟩) hg3).trans k0, (hb.cell (p := ⟨v3.heap.size, 1, none⟩) hg3).trans k1⟩
  clear hb3 hb3' hr2 hZ2 hB2 ho2 k0 k1 hg3
  obtain ⟨c0, c1, c2, c3, c4, c5, c6, c7, c8, c9, c10, c11, c12, c13⟩ := id hZ3
  dsimp only at c0 c1 c2 c3 c4 c5 c6 c7 c8 c9 c10 c11 c12 c13
  go_wp2_with fail
  generalize v3.alloc (.cells #[.int .i64 cc, .string sx] 30) = w3 at *
  generalize v3.heap.size = g3 at *
  refine (toCmd_ft m0 q0 w3 hr3 hn).mono ?_
  rintro e w4 ⟨s4, rfl, ho4, hb4⟩
  have hD4 := hb4
  have hB4 : Below w.heap.size w w4 := hB3.trans (hb4.mono hB3.size)
  have hr4 := hr3.below hb4
  have hZ4 := hZ3.below hb4 hZ3.lt
  clear c0 c1 c2 c3 c4 c5 c6 c7 c8 c9 c10 c11 c12 c13 hb4 hr3 hZ3 hB3
  have hL5 := hZ4.lt
  have hb5 : Below w4.heap.size w4 (w4.alloc (.cells #[.string m0.t, .int .i64 m0.k, .string m0.n, slW s4.1, .int .i64 m0.m, .int .i64 m0.f, .int .i64 m0.d, slW s4.2.1, .int .i64 m0.h, slW s4.2.2.1, .int .i64 m0.e, .bool m0.r, slW s4.2.2.2, .int .i64 m0.c] 35)) := (Below.refl _ _).alloc (Nat.le_refl _) _
  have hX5 := Qm.new w4 (.string m0.t) (.int .i64 m0.k) (.string m0.n) (slW s4.1) (.int .i64 m0.m) (.int .i64 m0.f) (.int .i64 m0.d) (slW s4.2.1) (.int .i64 m0.h) (slW s4.2.2.1) (.int .i64 m0.e) (.bool m0.r) (slW s4.2.2.2) (.int .i64 m0.c) 35
  have hZ5 := hZ4.below hb5 hL5
  have ho5 := ho4.below hb5
  have hr5 := hr4.below hb5
  have hB5 : Below w.heap.size w _ := hB4.trans (hb5.mono hB4.size)
  have hD5 := hD4.trans (hb5.mono hD4.size)
  clear hb5 ho4 hr4 hB4 hZ4
  go_wp2_with fail
  generalize (w4.alloc (.cells #[.string m0.t, .int .i64 m0.k, .string m0.n, slW s4.1, .int .i64 m0.m, .int .i64 m0.f, .int .i64 m0.d, slW s4.2.1, .int .i64 m0.h, slW s4.2.2.1, .int .i64 m0.e, .bool m0.r, slW s4.2.2.2, .int .i64 m0.c] 35)) = W5 at *
  generalize w4.heap.size = g5 at *
  refine (HIM.out s4 _ W5 ho5 hn (HTT.out.below hB5)).mono ?_
  rintro e v6 ⟨rfl, hb6'⟩
  have hb6 : Below W5.heap.size W5 (v6.alloc (.cells #[.int .i64 cc, .string sx] 30)) := hb6'.trans ((Below.refl _ _).alloc hb6'.size _)
  have hB6 : Below w.heap.size w (v6.alloc (.cells #[.int .i64 cc, .string sx] 30)) := hB5.trans (hb6.mono hB5.size)
  have hD6 := hD5.trans (hb6.mono hD5.size)
  have hr6 := hr5.below hb6
  have ho6 := ho5.below hb6
  have hZ6 := hZ5.below hb6 hZ5.lt
  have hX6 := hX5.below hb6 hX5.lt
  obtain ⟨k0, k1⟩ := HK.out _ hD6
  obtain ⟨i0, i1, -, -⟩ := res_block (w := v6) (wr := v6.alloc (.cells #[.int .i64 cc, .string sx] 30)) rfl (Below.refl _ _)
  clear hb6 hb6' hr5 ho5 hZ5 hX5 hB5 HK hD4 hD5 hD6
  go_wp2_with fail
  generalize v6.alloc (.cells #[.int .i64 cc, .string sx] 30) = W6 at *
  refine (HEQ.out cc sx _).mono ?_
  rintro e w6 ⟨rfl, hb6⟩
  have hB6 : Below w.heap.size w w6 := hB6.trans (hb6.mono hB6.size)
  have hr6 := hr6.below hb6
  have ho6 := ho6.below hb6
  have hZ6 := hZ6.below hb6 hZ6.lt
  have hX6 := hX6.below hb6 hX6.lt
  clear hb6 k0 k1 i0 i1 HEQ
  go_wp2_with fail
  refine wp_region_held_drew (S := fun w' => Qm w' g5 (cmQ m0 s4) ∧ Qm w' w.heap.size (cmQ m0 q0)) (by kernel_rfl) ?hS1 (fun hHeld => ?_)
  case hS1 => exact ⟨hX6, hZ6⟩
  refine wpAnyH_take (i := 0) (v := ?_) rfl (by kernel_rfl) (by kernel_rfl) (by kernel_rfl) (fun _ _ _ h => h) (Or.inl ⟨by rfl, ?hy1⟩) (by assumption) ?ty1
  case hy1 => (intro w' hSw; obtain ⟨⟨e0, e1, e2, e3, e4, e5, e6, e7, e8, e9, e10, e11, e12, e13⟩, -⟩ := hSw; dsimp only at e0 e1 e2 e3 e4 e5 e6 e7 e8 e9 e10 e11 e12 e13; go_simp; all_goals with_reducible rfl)
  simp only [Act.put, List.getElem_toArray, List.getElem_cons_zero, List.setIfInBounds_toArray, List.set_cons_zero, List.set_cons_succ]
  refine wpAnyH_take (i := 1) (v := ?_) rfl (by kernel_rfl) (by kernel_rfl) (by kernel_rfl) (fun _ _ _ h => h) (Or.inl ⟨by rfl, ?hy2⟩) (by assumption) ?ty2
  case hy2 => (intro w' hSw; obtain ⟨-, ⟨e0, e1, e2, e3, e4, e5, e6, e7, e8, e9, e10, e11, e12, e13⟩⟩ := hSw; dsimp only at e0 e1 e2 e3 e4 e5 e6 e7 e8 e9 e10 e11 e12 e13; go_simp; all_goals with_reducible rfl)
  simp only [Act.put, List.getElem_toArray, List.getElem_cons_zero, List.getElem_cons_succ, List.setIfInBounds_toArray, List.set_cons_zero, List.set_cons_succ]
  refine wpAnyH_ready (rs := [2]) (by kernel_rfl) (by simp) ?_
  refine AllReadyH.cons rfl (fun K hK => ?_) AllReadyH.nil
  go_simp
  refine (toCmd_ft m0 q0 _ (hr6.below (Below.refl _ _).drew) hn).mono ?_
  rintro e w7 ⟨s7, rfl, ho7, hb7⟩
  have hb67 : Below w6.heap.size w6 w7 := (Below.refl _ _).drew.trans hb7
  have hB7 : Below w.heap.size w w7 := hB6.trans (hb67.mono hB6.size)
  have ho7' := ho6.below hb67
  have hS7 : Qm w7 g5 (cmQ m0 s4) ∧ Qm w7 w.heap.size (cmQ m0 q0) := ⟨hX6.below hb67 hX6.lt, hZ6.below hb67 hZ6.lt⟩
  refine hK.out _ _ hS7 (fun hHeld => ?_)
  clear hK K hb67 hb7 hB6 ho6 hX6 hZ6 hr6
  refine wpAnyH_ready (rs := [3]) (by kernel_rfl) (by simp) ?_
  refine AllReadyH.cons rfl (fun K hK => ?_) AllReadyH.nil
  go_simp
  refine (eqCmd_ft m0 s4 s7 _ ho7' ho7 hn).mono ?_
  rintro e w8 ⟨rfl, hb8⟩
  have hB8 : Below w.heap.size w w8 := hB7.trans (hb8.mono hB7.size)
  refine hK.out _ _ ⟨hS7.1.below hb8 hS7.1.lt, hS7.2.below hb8 hS7.2.lt⟩ (fun hHeld => ?_)
  clear hK K hb8 hB7 ho7 ho7' hS7
  refine wpAnyH_take (i := 4) (v := ?_) rfl (by kernel_rfl) (by kernel_rfl) (by kernel_rfl) (fun _ _ _ h => h) (Or.inl ⟨by rfl, ?hy3⟩) (by assumption) ?ty3
  case hy3 => (intro w' hSw; go_simp; all_goals with_reducible rfl)
  simp only [Act.put, List.getElem_toArray, List.getElem_cons_zero, List.getElem_cons_succ, List.setIfInBounds_toArray, List.set_cons_zero, List.set_cons_succ]
  refine wpAnyH_done (by kernel_rfl) ?_ _
  clear hHeld
  go_wp2
  go_ret
  exact ⟨rfl, hB8⟩
theorem trodVars_len {H : Type} {enc : TypeId × Value → H} {P : Program} {W : World} {f : Nat → Bool} : ∀ {ns : List String} {gs : List (DataW H)} {ps : List MemPlace}, DataW.TrodVars enc P W f ns gs ps → gs.length = ns.length
 | [], [], _, _ => rfl
 | [], _ :: _, _, h => h.elim
 | _ :: _, [], _, h => h.elim
 | _ :: _, _ :: _, _, h => by
  obtain ⟨_, _, _, _, _, _, _, _, _, _, h, _⟩ := h
  simpa using trodVars_len h
/-! ### THE ROW's STEP -/
set_option maxRecDepth 100000 in
theorem lifted (os : Os) (started : os.Started) (H : Type) (enc : TypeId × Value → H) :
  ReturnsInHanded {} Tryz.checked os 3 .any (fun w args => (Rows.fnExactCmdTextSpec.pre enc Tryz.prog Tryz.f3 [] false w args ∧ laidMetH Tryz.prog Rows.fnExactCmdTextRow.laid w) ∧ sizedMet enc Tryz.prog Tryz.f3 (OpenSpec.ofChange Rows.fnExactCmdTextSpec) false w args)
   (Rows.fnExactCmdTextSpec.post enc Tryz.prog Tryz.f3 false true false false) := by
 refine returnsInHanded_of_change_and (C := Tryz.checked) (X := fun w _ => laidMetH Tryz.prog Rows.fnExactCmdTextRow.laid w) (fun _ _ _ hh h => h.of_heap hh) own started (by kernel_rfl) Tryz.func3
  (ChangeSpec.witness_shaped (enc := enc) (C := Tryz.checked) (os := os) (X := fun w _ => laidMetH Tryz.prog Rows.fnExactCmdTextRow.laid w) false (start os) #[.agg #[.string ByteArray.empty, .int .i64 0, .string ByteArray.empty, .slice none 0 0, .int .i64 0, .int .i64 0, .int .i64 0, .slice none 0 0, .int .i64 0, .slice none 0 0, .int .i64 0, .bool false, .slice none 0 0, .int .i64 0]] 8 (World.layVars_os _ _ _) (World.shaped_of_ZipB (by kernel_rfl) (by kernel_rfl)) (by kernel_rfl) (by kernel_rfl) (by kernel_rfl) (door_met os _)) ?_
 intro W base args ds gs before hval0 hW _ _ hL _
 have hval : ∀ (j : Nat) t v, Tryz.f3.params[j]? = some t → args[j]? = some v → Value.okWide Tryz.prog W .any base t v := hval0
 have hW' := hW
 obtain ⟨p, q, hA0, hV, rfl, hfz, hnd⟩ := hW
 have hA : DataW.TrodAll enc Tryz.prog W 0 (fun _ => true) true Tryz.f3.params.toList args.toList ds p := hA0
 rw [Tryz.params3] at hA hval
 obtain ⟨v0, vs0, d0, ds0, p0, q0, hargs, rfl, rfl, h0, r0⟩ := trodAll_cons hA
 obtain ⟨rfl, rfl, rfl⟩ := trodAll_nil r0
 obtain rfl : args = #[v0] := by cases args; simp_all
 obtain ⟨cs0, rfl, -⟩ := okWide_struct Tryz.underlying27 (hval 0 27 v0 rfl rfl)
 have k0 := h0
 have lt0 : ∀ x ∈ p0, x.block < W.heap.size := by obtain ⟨m, hm⟩ := k0; exact DataW.trod_lt m _ _ _ hm
 obtain ⟨fuel0, hf0⟩ := h0
 obtain ⟨m0, pp0, hc0, w0⟩ := open_cm cmT hf0
 obtain rfl : cs0 = #[.string m0.t, .int .i64 m0.k, .string m0.n, slW pp0.1, .int .i64 m0.m, .int .i64 m0.f, .int .i64 m0.d, slW pp0.2.1, .int .i64 m0.h, slW pp0.2.2.1, .int .i64 m0.e, .bool m0.r, slW pp0.2.2.2, .int .i64 m0.c] := Array.toList_inj.1 hc0
 obtain ⟨e1, e2, e3, e4, e5, e6, e7, e8, e9, rfl⟩ : ∃ g1 g2 g3 g4 g5 g6 g7 g8 g9, gs = [g1, g2, g3, g4, g5, g6, g7, g8, g9] := by
  have hl := trodVars_len hV
  match gs, hl with
  | [g1, g2, g3, g4, g5, g6, g7, g8, g9], _ => exact ⟨g1, g2, g3, g4, g5, g6, g7, g8, g9, rfl⟩
 clear hA0 hval0
 refine (walk m0 pp0 W w0 (tabs hL)).mono fun e W' ⟨he, bel⟩ => ?_
 subst he
 exact ⟨_, rfl, _, _, _, [], _, _, hW', trodAll_mk1 (shut_bool Tryz.underlying4 _), (trodAll_cons_mk (Below.trod laidOut (by kernel_rfl) (of_decide_eq_true (by kernel_rfl)) k0 bel lt0) trodAll_mk0), Below.trodVars laidOut bel (by kernel_rfl) hV, bel.frame _, fun h => by cases h⟩
theorem over : Rows.fnExactCmdTextRow.holds Tryz.pinned (OpenSpec.ofChange Rows.fnExactCmdTextSpec) :=
 OpenClaim.holds_of_wide 3 Tryz.f3 rfl rfl rfl rfl rfl rfl rfl ⟨rfl, rfl, rfl, rfl, rfl⟩ rfl rfl rfl rfl rfl (by kernel_rfl) Tryz.func3 closedF
  (of_decide_eq_true (by kernel_rfl)) (by unfold Func.isWrapper; first | (rw [if_pos (by decide +kernel)]; kernel_rfl) | (rw [if_neg (by decide +kernel)]; exact ⟨rfl, rfl⟩))
  (fun os started H enc _ => lifted os started H enc)
theorem plainF (f : FuncId) (fn : Func) (hf : Tryz.pinned.checked.prog.funcNamed "loop.example/g00447/laws.FnExactCmdText" = some f) (hfn : Tryz.pinned.checked.prog.funcs[f]? = some fn) :
  true = Tryz.pinned.checked.prog.looks [] ∧ ∀ (j : Nat) t, fn.params[j]? = some t → Tryz.pinned.checked.prog.wantsStandIn t = false := by
 obtain rfl : f = 3 := Option.some.inj ((show Tryz.prog.funcNamed "loop.example/g00447/laws.FnExactCmdText" = some 3 by kernel_rfl).symm.trans hf) |>.symm
 obtain rfl : fn = Tryz.f3 := (Option.some.inj (Tryz.func3.symm.trans hfn)).symm
 refine ⟨jzLooks, fun j t ht => ?_⟩
 rw [Tryz.params3] at ht
 have hm : t ∈ [27] := by simpa using Array.mem_of_getElem? ht
 have hall : ([27].all fun u => !Tryz.prog.wantsStandIn u) = true := by kernel_rfl
 exact (show Tryz.prog.wantsStandIn t = false by simpa using List.all_eq_true.1 hall t hm)
end Go.Proofs.YtjogclofjollnaaGreatDoor.fnExactCmdText
namespace Go.Proofs.YtjogclofjollnaaGreatDoor
theorem fnExactCmdText_card : Rows.FnExactCmdTextCardSaid :=
 Claim7.holds_tied_plain_at .later [] _ _ _ _ fnExactCmdText.over (fun _ h => by cases h) fnExactCmdText.byText (fun _ h => by cases h) fnExactCmdText_row_tie rfl ⟨rfl, rfl⟩ jzMain rfl fnExactCmdText.plainF fnExactCmdText.goesF
end Go.Proofs.YtjogclofjollnaaGreatDoor
