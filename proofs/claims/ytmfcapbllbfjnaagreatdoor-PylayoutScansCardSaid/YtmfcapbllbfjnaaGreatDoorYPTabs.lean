/- What the package's own variable and three tables of the library hold, as the program's calls ask for it. -/
import Derived.Test.YtmfcapbllbfjnaaGreatDoorYBeg
import Derived.Test.YtmfcapbllbfjnaaGreatDoorShelf
import Derived.PinnedBridge
import Derived.Lib.LaidU8
import Derived.Lib.LaidCase
namespace Go.Proofs.YtmfcapbllbfjnaaGreatDoor
open Go.RowKit

/-- The quotes by their marks; of 0, none. -/
def quoV (m : Nat) : ByteArray := if m = 0 then ⟨#[]⟩ else quoB m
structure TabsP (w : World) : Prop where
  cv : Lib.CaseVar 2 Lib.caseA w
  ut : Lib.Utf8Tabs 3 4 w
  qu : ∀ m, m < 5 → w.cell? ⟨1, m, none⟩ = some (.string (quoV m))
theorem TabsP.up {w w' : World} (h : TabsP w) (hu : Up w w') : TabsP w' := ⟨Lib.CaseVar_below h.cv hu, Utf8Tabs_below h.ut hu, fun m hm => cell_up hu (h.qu m hm)⟩
theorem TabsP.low {w : World} (h : TabsP w) (s : ByteArray) (hs : s.size < 35184372088832) : Calls Tryz.prog 84 #[.string s] w fun e w' => e = .returned (.string ⟨(Lib.toLowerD s.data.toList).toArray⟩) ∧ Up w w' := Tryz.strings_ToLower_any s w hs h.cv h.ut
/-- The variable's name. -/
noncomputable def nmQuotes : String := ((Tryz.prog.globals[1]?).map (·.name)).getD ""
theorem gQuotes : Tryz.prog.globalNamed nmQuotes = some 1 := by kernel_rfl
theorem tQuotes : (Tryz.prog.globals[1]?).map (·.type) = some 91 := by kernel_rfl
theorem quotes_of_reads {w : World} (h : Lib.VarReads Tryz.prog w nmQuotes Rows.laid_indenture_pytoken_quotes) : ∀ m, m < 5 → w.cell? ⟨1, m, none⟩ = some (.string (quoV m)) := by
  intro m hm
  obtain ⟨g, t, cs, fuel, p, hg, hty, hvar, hd⟩ := h
  obtain rfl := Option.some.inj (gQuotes.symm.trans hg)
  obtain rfl := Option.some.inj (tQuotes.symm.trans hty)
  obtain ⟨fuel', d, q, hdi, he⟩ := Lib.array_elem Tryz.underlying91 hd m hm
  rw [show Tryz.prog.cellsOf 9 = 1 from by kernel_rfl, Nat.mul_one] at he
  obtain ⟨s, hs, hx, -⟩ := DataW.trod_string Tryz.underlying9 he
  have h0 := congrArg (·[0]?) hs
  simp only [List.getElem?_take, List.getElem?_drop] at h0
  rw [World.var?_cell hg hvar m, ← Array.getElem?_toList]
  have h1 : cs.toList[m]? = some (.string s) := by simpa using h0
  rw [h1]
  have hd2 : d = .lit (.string s.data.toList) := congrArg Prod.fst hx
  have hsd : ∀ l : List UInt8, (DataW.lit (.string l) : DataW Unit) = d → s = ⟨l.toArray⟩ := fun l e => by
    rw [hd2] at e
    injection e with e
    injection e with e
    rw [e]
  have e5 : m = 0 ∨ m = 1 ∨ m = 2 ∨ m = 3 ∨ m = 4 := by omega
  rcases e5 with rfl | rfl | rfl | rfl | rfl
  all_goals
    have e := hsd _ (Option.some.inj hdi)
    rw [e]
    rfl
theorem caseX : CaseExtra Tryz.prog Tryz.lays159_ren := ⟨by kernel_rfl, by kernel_rfl, by kernel_rfl, by kernel_rfl, by kernel_rfl, by kernel_rfl⟩
theorem utfX : U8Extra Tryz.prog Tryz.lays159_ren := ⟨by kernel_rfl, by kernel_rfl, by kernel_rfl, by kernel_rfl, by kernel_rfl, by kernel_rfl, by kernel_rfl⟩
theorem tabsP_of_laid {w : World} (h : laidMet Tryz.prog Rows.pylayoutScansRow.laid w) : TabsP w := by
  have m0 := Lib.laidMet.reads h (List.mem_of_getElem? (i := 0) rfl)
  have m1 := Lib.laidMet.reads h (List.mem_of_getElem? (i := 1) rfl)
  have m2 := Lib.laidMet.reads h (List.mem_of_getElem? (i := 2) rfl)
  have m3 := Lib.laidMet.reads h (List.mem_of_getElem? (i := 3) rfl)
  have e2 : Rows.laid_unicode_CaseRanges = Lib.caseData := Pinned.caseRanges_eq
  have e3 : Rows.laid_unicode_utf8_first = Lib.firstData := Pinned.utf8First_eq
  rw [e2] at m2
  rw [e3] at m3
  refine ⟨caseVar_of_reads { Tryz.lays159 with } (by kernel_rfl) caseX m2, utf8Tabs_of_reads { Tryz.lays159 with } utfX m3 m0, quotes_of_reads ?_⟩
  exact cast (congrArg (fun n => Lib.VarReads Tryz.prog w n _) (show _ = nmQuotes by kernel_rfl)) m1
end Go.Proofs.YtmfcapbllbfjnaaGreatDoor
