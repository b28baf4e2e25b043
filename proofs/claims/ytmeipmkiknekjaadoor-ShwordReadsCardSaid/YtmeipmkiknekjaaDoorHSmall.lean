/- The program's small methods: isBlank, isJoin, take, say. -/
import Derived.Test.YtmeipmkiknekjaaDoorHMem
import Derived.Deep.RegionLaw
import Derived.Deep.AppendLies
namespace Go.Proofs.YtmeipmkiknekjaaDoor
open Go.RowKit

set_option maxRecDepth 100000 in
set_option maxHeartbeats 4000000 in
theorem isBlank_any (W : World) (b : Nat) (line : ByteArray) (p : Nat) (hp : p < line.size) (c0 : W.cell? ⟨b, 0, none⟩ = some (.string line)) (c2 : W.cell? ⟨b, 2, none⟩ = some (.int .i64 (p : Nat))) :
    Calls Tryd.prog 27 #[.pointer (some ⟨b, 0, none⟩)] W fun e w' => e = .returned (.bool (isW (bt line p))) ∧ DrN W w' := by
  obtain ⟨c, hc⟩ : ∃ c, bt line p = c := ⟨_, rfl⟩
  have hx : line[p].toNat = c := by rw [bt_eq hp]; exact hc
  have p0 : (0 : Int) ≤ (p : Int) := by omega
  have p1 : (p : Int) < line.size := by omega
  rw [hc]
  have HU := Lib.hid (DrN.refl W).drew
  clear hc
  by_cases h32 : c = 32
  · subst h32
    go_enter Tryd.func27, Tryd.ntmps27
    go_wp2
    go_region
    go_wp2
    go_ret
    exact ⟨rfl, HU.out⟩
  have n1 : ((c : Int) == 32) = false := beq_eq_false_iff_ne.2 (by omega)
  by_cases h9 : c = 9
  · subst h9
    clear h32
    go_enter Tryd.func27, Tryd.ntmps27
    go_wp2
    go_region
    go_wp2
    go_ret
    exact ⟨rfl, HU.out⟩
  have n2 : ((c : Int) == 9) = false := beq_eq_false_iff_ne.2 (by omega)
  have e : isW c = false := by unfold isW; rw [beq_eq_false_iff_ne.2 h32, beq_eq_false_iff_ne.2 h9]; rfl
  rw [e]
  clear h32 h9 e
  go_enter Tryd.func27, Tryd.ntmps27
  go_wp2
  go_region
  go_wp2
  go_ret
  exact ⟨rfl, HU.out⟩
set_option maxRecDepth 100000 in
set_option maxHeartbeats 4000000 in
theorem isJoin_any (W : World) (b : Nat) (line : ByteArray) (p : Nat) (hp : p ≤ line.size) (c0 : W.cell? ⟨b, 0, none⟩ = some (.string line)) (c2 : W.cell? ⟨b, 2, none⟩ = some (.int .i64 (p : Nat))) :
    Calls Tryd.prog 29 #[.pointer (some ⟨b, 0, none⟩)] W fun e w' => e = .returned (.bool ((bl line).drop p == [92, 10])) ∧ DrN W w' := by
  have p0 : (0 : Int) ≤ (p : Int) := by omega
  have p1 : (p : Int) ≤ line.size := by omega
  have HU := Lib.hid (DrN.refl W).drew
  have he : bl (line.extract p line.size) = (bl line).drop p := by
    rw [bl_extract, List.take_of_length_le (by rw [bl_len]; exact Nat.le_refl _)]
  have HE := Lib.hid (show ((line.extract p line.size).toList == [92, 10]) = ((bl line).drop p == [92, 10]) from by
    rw [Bool.eq_iff_iff, beq_iff_eq, beq_iff_eq, ← he, Lib.toList_data]
    constructor
    · intro h; unfold bl; rw [h]; rfl
    · intro h
      have h2 : bl (line.extract p line.size) = bl ⟨#[92, 10]⟩ := h.trans rfl
      rw [bl_inj h2])
  clear he
  go_enter Tryd.func29, Tryd.ntmps29
  go_wp2
  go_region
  go_wp2
  go_ret
  exact ⟨ret_bool HE.out, HU.out⟩
section
variable {w0 W : World} {b tb n p mk : Nat} {line : ByteArray} {v tv : Value} {ps : List Pc} {l : List Nat}
set_option maxRecDepth 100000 in
set_option maxHeartbeats 4000000 in
theorem take_any (h : LtH w0 W b tb line n p mk v ps tv l) (hp : p < line.size) (hs : (line.size : Int) ≤ 1000000) :
    Calls Tryd.prog 33 #[.pointer (some ⟨b, 0, none⟩)] W fun e w' => e = .returned (.int .u8 (bt line p : Nat)) ∧ LtH w0 w' b tb line n (p + 1) mk v ps tv l := by
  obtain ⟨c, hc⟩ : ∃ c, bt line p = c := ⟨_, rfl⟩
  have hx : line[p].toNat = c := by rw [bt_eq hp]; exact hc
  have p0 : (0 : Int) ≤ (p : Int) := by omega
  have p1 : (p : Int) < line.size := by omega
  rw [hc]
  have e1 : IntKind.i64.wrap ((p : Int) + 1) = (p : Int) + 1 := IntWalk.i64_in _ (by omega)
  have e2 : IntKind.i64.wrap ((p : Int) + 1 - 1) = (p : Int) := (IntWalk.i64_in _ (by omega)).trans (by omega)
  have c2 : W.cell? ⟨b, 2, none⟩ = some (.int .i64 (p : Nat)) := h.rd.cell rfl
  have z2 : W.frozen? ⟨b, 2, none⟩ = false := h.rd.fr 2
  have h3 := h.set (k := 2) (u := .int .i64 ((p : Int) + 1)) (p' := p + 1) (mk' := mk) rfl
  have d0 := h3.rd.cell (k := 0) (show _ = some (.string line) from rfl)
  have d2 := h3.rd.cell (k := 2) (show _ = some (.int .i64 ((p + 1 : Nat) : Int)) from rfl)
  rw [show ((p + 1 : Nat) : Int) = (p : Int) + 1 from rfl] at d2
  have HR := Lib.hid (h3.more (Up.drew _))
  clear hc h h3
  go_enter Tryd.func33, Tryd.ntmps33
  go_wp2
  go_region
  go_wp2
  go_ret
  exact ⟨rfl, HR.out⟩
set_option maxRecDepth 100000 in
set_option maxHeartbeats 4000000 in
theorem say_any (h : LtH w0 W b tb line n p mk v ps tv l) (c : Nat) (hc : c < 256) (hl : l.length ≤ 1000000) :
    Calls Tryd.prog 25 #[.pointer (some ⟨tb, 0, none⟩), .int .u8 (c : Nat)] W fun e w' => e = .returned (.tuple #[]) ∧ ∃ tv', LtH w0 w' b tb line n p mk v ps tv' (l ++ [c]) := by
  obtain ⟨A, q, hv⟩ := own_slice h.trow
  obtain ⟨k, hk⟩ : ∃ k, l.length = k := ⟨_, rfl⟩
  rw [hk] at hv hl
  subst hv
  obtain ⟨i0, hi0, hz0, hz1, hz2⟩ := info_parts infoByte
  have hu := Up.alloc W (.cells #[Value.int .u8 (c : Nat)] U8)
  have t1 := h.tcell
  have t2 := h.tfr
  have t3 : (W.alloc (.cells #[Value.int .u8 (c : Nat)] U8)).cell? ⟨tb, 0, none⟩ = some (.slice A k q) := cell_up hu t1
  have HOWN : W.ownsRow w0.heap.size U8 1 (.slice A k q) k (nbC l) := by have h := h.trow; rwa [hk] at h
  have hb0 : w0.heap.size ≤ (W.alloc (.cells #[Value.int .u8 (c : Nat)] U8)).heap.size := Nat.le_trans (Below.size h.rd.up) (Below.size hu)
  have HB5 := Lib.hid (fun (w5 : World) (hg : (W.alloc (.cells #[Value.int .u8 (c : Nat)] U8)).drew.grownBy w5 (Value.slice A k q).ownBlock) => h.tmid (hu.trans (Up.drew _)) hg)
  have HB6 := Lib.hid (fun (w5 : World) (hg : (W.alloc (.cells #[Value.int .u8 (c : Nat)] U8)).grownBy w5 (Value.slice A k q).ownBlock) => h.tmid hu hg)
  have HAP := Lib.hid (fun (w5 : World) (v5 : Value) (hg : (W.alloc (.cells #[Value.int .u8 (c : Nat)] U8)).grownBy w5 (Value.slice A k q).ownBlock) (ho : w5.ownsRow w0.heap.size U8 1 v5 (k + 1) (nbC l ++ [.int .u8 (c : Nat)])) => h.tapp (l' := l ++ [c]) hu hg (by rw [List.length_append, nbC_snoc l hc, hk]; exact ho))
  have b1 : k + 1 ≤ maxLen := by unfold maxLen; omega
  have b2 : (k + 1) * 1 ≤ 140737488355328 := by omega
  have hnews : ∀ u ∈ [Value.int .u8 (c : Nat)], u.oneCell' = true := by intro u hu; simp at hu; subst hu; rfl
  clear h hu hl hk
  go_enter Tryd.func25, Tryd.ntmps25
  go_wp2_with (at_builtin; go_loud (refine wpList_append_lies _ rfl _ _ TT rfl w0.heap.size U8 i0 (.int .u8 0) 1 1 Tryd.underlying51 hi0 hz0 hz1 hz2 rfl (by decide) (.slice A k q) k (nbC l) rfl (HOWN.alloc _) ⟨W.heap.size, 0, none⟩ 1 1 [.int .u8 (c : Nat)] rfl rfl (World.news_of_block (cs := #[Value.int .u8 (c : Nat)]) (t := U8) (fr := (0, 0)) (heap_alloc_new W _)) hnews (by omega) b1 b2 hb0 _ rfl ?_); intro g5 cap5 w5 hown5 hgrow hat5 hlt5; have hB5 := HB6.out _ hgrow; have c5 : w5.cell? ⟨tb, 0, none⟩ = some (.slice A k q) := cellOf hB5 rfl; have z5 : w5.frozen? ⟨tb, 0, none⟩ = false := frozenOf hB5)
  all_goals
    have HR := Lib.hid (HAP.out _ _ hgrow hown5)
    go_wp2
    go_end0
    exact ⟨rfl, _, HR.out⟩
end
end Go.Proofs.YtmeipmkiknekjaaDoor
