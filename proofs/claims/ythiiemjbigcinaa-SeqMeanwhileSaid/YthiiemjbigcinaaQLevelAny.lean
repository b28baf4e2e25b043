/- The program's level, at whatever two trees whose depths differ by two at most. -/
import Derived.Test.YthiiemjbigcinaaQLevel
namespace Go.Proofs.Ythiiemjbigcinaa
open Go.RowKit

theorem cnt_of {G : Nat → Prop} {w : World} {t : QT} {v : Value} (h : Tr G w t v) : CntC w v t.cn t.sm t.dp := fun _ hu => counted_any (h.up hu)
theorem gUp {G : Nat → Prop} {w W : World} (hG : ∀ i, w.heap.size ≤ i → G i) (hu : Up w W) : ∀ i, W.heap.size ≤ i → G i := fun i h => hG i (Nat.le_trans (Below.size hu) h)
theorem ROk.dpn {t : QT} (h : ROk t.row) : (t.dp : Int) ≤ 1048576000 := by
  have h1 := h.nmt.c
  have h2 := dp_cn t
  omega
/-- Parts of a row that is well are well. -/
theorem ROk.infix {A B C : Row} (h : ROk (A ++ B ++ C)) : ROk B := (ROk.left (A := A ++ B) h).right
theorem level_any {G : Nat → Prop} {w : World} {a b : QT} {x : ByteArray × Int} {va vb : Value} (ha : Tr G w a va) (hb : Tr G w b vb) (hG : ∀ i, w.heap.size ≤ i → G i) (aa : Av a) (ab : Av b) (hok : ROk (a.row ++ x :: b.row)) (d1 : a.dp ≤ b.dp + 2) (d2 : b.dp ≤ a.dp + 2) :
    Calls Try.prog 34 #[va, thV x, vb] w (NewQ G (qlev a x b) w) := by
  have e1 := ROk.dpn (t := a) hok.left
  have e2 := ROk.dpn (t := b) hok.tail
  by_cases c1 : b.dp + 1 < a.dp
  · obtain ⟨al, ax, ar, rfl⟩ := not_nil (t := a) (by omega)
    obtain ⟨pb, rfl⟩ := hb.isPtr
    have hA := ha
    obtain ⟨ba, val, var, rfl, -, hc, hal, har⟩ := ha
    obtain ⟨pal, rfl⟩ := hal.isPtr
    obtain ⟨aal, aar, x1, x2⟩ := aa
    have k : (QT.node al ax ar).row ++ x :: b.row = al.row ++ ax :: (ar.row ++ x :: b.row) := by simp [row_node]
    rw [k] at hok
    by_cases c2 : al.dp < ar.dp
    · obtain ⟨arl, arx, arr, rfl⟩ := not_nil (t := ar) (by omega)
      have hAR := har
      obtain ⟨bi, vil, vir, rfl, -, hc2, hil, hir⟩ := har
      obtain ⟨pil, rfl⟩ := hil.isPtr
      obtain ⟨pir, rfl⟩ := hir.isPtr
      rw [lev_left2 c1 c2]
      have k2 : al.row ++ ax :: ((QT.node arl arx arr).row ++ x :: b.row) = (al.row ++ ax :: arl.row) ++ arx :: (arr.row ++ x :: b.row) := by simp [row_node]
      rw [k2] at hok
      exact level_1 w ba bi pal pil pir pb ax.1 arx.1 ax.2 arx.2 al.cn (QT.node arl arx arr).cn al.dp (QT.node arl arx arr).dp al.sm (QT.node arl arx arr).sm _ _ _ x.1 x.2 (QT.node al ax (.node arl arx arr)).cn b.cn (QT.node al ax (.node arl arx arr)).dp b.dp (QT.node al ax (.node arl arx arr)).sm b.sm
        (cellOf hc rfl) (cellOf hc rfl) (cellOf hc rfl) (cellOf hc rfl) (cellOf hc2 rfl) (cellOf hc2 rfl) (cellOf hc2 rfl) (cellOf hc2 rfl) e2 e1 (by omega) c2 (cnt_of hA) (cnt_of hb) (cnt_of hal) (cnt_of hAR)
        (fun W hu => tie_any (hal.up hu) (hil.up hu) (gUp hG hu) hok.left) (fun W hu => tie_any (hir.up hu) (hb.up hu) (gUp hG hu) hok.tail)
        (fun W v v' hu h1 h2 => tie_any h1 h2 (gUp hG hu) hok)
    · obtain ⟨par, rfl⟩ := har.isPtr
      rw [lev_left c1 c2]
      exact level_2 w ba pal par pb ax.1 ax.2 al.cn ar.cn al.dp ar.dp al.sm ar.sm _ _ x.1 x.2 (QT.node al ax ar).cn b.cn (QT.node al ax ar).dp b.dp (QT.node al ax ar).sm b.sm
        (cellOf hc rfl) (cellOf hc rfl) (cellOf hc rfl) (cellOf hc rfl) e2 e1 (by omega) c2 (cnt_of hA) (cnt_of hb) (cnt_of hal) (cnt_of har)
        (fun W hu => tie_any (har.up hu) (hb.up hu) (gUp hG hu) hok.tail) (fun W v hu h1 => tie_any (hal.up hu) h1 (gUp hG hu) hok)
  · obtain ⟨pa, rfl⟩ := ha.isPtr
    by_cases c3 : a.dp + 1 < b.dp
    · obtain ⟨bl, bx, br, rfl⟩ := not_nil (t := b) (by omega)
      have hB := hb
      obtain ⟨bb, vbl, vbr, rfl, -, hc, hbl, hbr⟩ := hb
      obtain ⟨pbr, rfl⟩ := hbr.isPtr
      obtain ⟨abl, abr, x1, x2⟩ := ab
      have k : a.row ++ x :: (QT.node bl bx br).row = (a.row ++ x :: bl.row) ++ bx :: br.row := by simp [row_node]
      rw [k] at hok
      by_cases c2 : br.dp < bl.dp
      · obtain ⟨bll, blx, blr, rfl⟩ := not_nil (t := bl) (by omega)
        have hBL := hbl
        obtain ⟨bi, vil, vir, rfl, -, hc2, hil, hir⟩ := hbl
        obtain ⟨pil, rfl⟩ := hil.isPtr
        obtain ⟨pir, rfl⟩ := hir.isPtr
        rw [lev_right2 c1 c3 c2]
        have k2 : (a.row ++ x :: (QT.node bll blx blr).row) ++ bx :: br.row = (a.row ++ x :: bll.row) ++ blx :: (blr.row ++ bx :: br.row) := by simp [row_node]
        rw [k2] at hok
        exact level_3 w bb bi pa pbr pil pir bx.1 blx.1 bx.2 blx.2 (QT.node bll blx blr).cn br.cn (QT.node bll blx blr).dp br.dp (QT.node bll blx blr).sm br.sm _ _ _ x.1 x.2 a.cn (QT.node (.node bll blx blr) bx br).cn a.dp (QT.node (.node bll blx blr) bx br).dp a.sm (QT.node (.node bll blx blr) bx br).sm
          (cellOf hc rfl) (cellOf hc rfl) (cellOf hc rfl) (cellOf hc rfl) (cellOf hc2 rfl) (cellOf hc2 rfl) (cellOf hc2 rfl) (cellOf hc2 rfl) e2 e1 (by omega) (by omega) c2 (cnt_of ha) (cnt_of hB) (cnt_of hBL) (cnt_of hbr)
          (fun W hu => tie_any (ha.up hu) (hil.up hu) (gUp hG hu) hok.left) (fun W hu => tie_any (hir.up hu) (hbr.up hu) (gUp hG hu) hok.tail)
          (fun W v v' hu h1 h2 => tie_any h1 h2 (gUp hG hu) hok)
      · obtain ⟨pbl, rfl⟩ := hbl.isPtr
        rw [lev_right c1 c3 c2]
        exact level_4 w bb pa pbl pbr bx.1 bx.2 bl.cn br.cn bl.dp br.dp bl.sm br.sm _ _ x.1 x.2 a.cn (QT.node bl bx br).cn a.dp (QT.node bl bx br).dp a.sm (QT.node bl bx br).sm
          (cellOf hc rfl) (cellOf hc rfl) (cellOf hc rfl) (cellOf hc rfl) e2 e1 (by omega) (by omega) c2 (cnt_of ha) (cnt_of hB) (cnt_of hbl) (cnt_of hbr)
          (fun W hu => tie_any (ha.up hu) (hbl.up hu) (gUp hG hu) hok.left) (fun W v hu h1 => tie_any h1 (hbr.up hu) (gUp hG hu) hok)
    · obtain ⟨pb, rfl⟩ := hb.isPtr
      rw [lev_mid c1 c3]
      exact level_5 w pa pb _ x.1 x.2 a.cn b.cn a.dp b.dp a.sm b.sm e2 e1 (by omega) (by omega) (cnt_of ha) (cnt_of hb) (fun W hu => tie_any (ha.up hu) (hb.up hu) (gUp hG hu) hok)
end Go.Proofs.Ythiiemjbigcinaa
