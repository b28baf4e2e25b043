/- The program's content; the signs that are looked for. -/
import Derived.Test.YtopdbilkpkgccaaDoorMkP3
namespace Go.Proofs.YtopdbilkpkgccaaDoor
open Go.RowKit Go.Shelf

theorem ib_neg (c : UInt8) : ∀ l : List UInt8, (Lib.indexByte l c < 0 ↔ c ∉ l) ∧ -1 ≤ Lib.indexByte l c
  | [] => ⟨by simp [Lib.indexByte], by simp [Lib.indexByte]⟩
  | b :: l => by
    obtain ⟨h1, h2⟩ := ib_neg c l
    by_cases hb : b = c
    · subst hb
      have : Lib.indexByte (b :: l) b = 0 := by rw [Lib.indexByte, if_pos (by simp)]
      rw [this]
      exact ⟨by simp, by omega⟩
    · have h0 : (b == c) = false := beq_eq_false_iff_ne.2 hb
      have hu : Lib.indexByte (b :: l) c = if Lib.indexByte l c == -1 then -1 else Lib.indexByte l c + 1 := by
        rw [Lib.indexByte, if_neg (by rw [h0]; exact Bool.false_ne_true)]
      rw [hu]
      by_cases hm : Lib.indexByte l c = -1
      · rw [hm, if_pos (by rfl)]
        refine ⟨⟨fun _ => ?_, fun _ => by omega⟩, by omega⟩
        rw [List.mem_cons]
        exact fun k => k.elim (fun e => hb e.symm) (h1.1 (by omega))
      · rw [if_neg (by simpa using hm)]
        refine ⟨⟨fun k => by omega, fun k => ?_⟩, by omega⟩
        exfalso
        have := h1.2 (fun m => k (by simp [m]))
        omega
theorem idx_any (S : ByteArray) (c : Nat) (hc : c < 256) (W : World) : Calls Tryd.prog 16 #[.string S, .int .u8 (c : Nat)] W fun e w' => ∃ r : Int, e = .returned (.int .i64 r) ∧ (r < 0 ↔ c ∉ bl S) ∧ W = w' := by
  have h := Any.strings_IndexByte Tryd.lays137 S (c : Nat) W
  change Calls Tryd.prog 16 #[.string S, .int .u8 (c : Nat)] W _ at h
  refine h.mono ?_
  rintro e w' ⟨rfl, rfl⟩
  refine ⟨_, rfl, ?_, rfl⟩
  rw [(ib_neg _ _).1]
  unfold bl
  rw [List.mem_map]
  have e1 : (((c : Int).toNat.toUInt8).toNat) = c := by
    rw [Int.toNat_natCast]
    show c % 256 = c
    omega
  constructor
  · rintro h ⟨x, hx, hxc⟩
    refine h ?_
    have : x = (c : Int).toNat.toUInt8 := UInt8.toNat_inj.1 (by rw [e1, hxc])
    rw [← this]
    exact hx
  · intro h hm
    exact h ⟨_, hm, e1⟩
theorem con_any (S : ByteArray) (W : World) : Calls Tryd.prog 24 #[.string S, .string ⟨#[96]⟩] W fun e w' => e = .returned (.bool (decide (96 ∈ bl S))) ∧ W = w' := by
  have h := Any.strings_Contains_one Tryd.lays144 S 96 W
  change Calls Tryd.prog 24 #[.string S, .string ⟨#[96]⟩] W _ at h
  refine h.mono ?_
  rintro e w' ⟨rfl, rfl⟩
  refine ⟨?_, rfl⟩
  congr 2
  rw [decide_eq_decide]
  have h1 := (ib_neg 96 S.data.toList).1
  have h2 : 96 ∈ bl S ↔ (96 : UInt8) ∈ S.data.toList := by
    unfold bl
    rw [List.mem_map]
    constructor
    · rintro ⟨x, hx, e⟩
      rw [show x = 96 from UInt8.toNat_inj.1 e] at hx
      exact hx
    · intro h
      exact ⟨96, h, rfl⟩
  rw [h2]
  constructor
  · intro h
    exact Decidable.byContradiction fun k => by have := h1.2 k; omega
  · intro h
    exact Decidable.byContradiction fun k => h1.1 (by omega) h
set_option maxRecDepth 100000 in
set_option maxHeartbeats 4000000 in
theorem content_any (o : ByteArray) (u h : List Nat) (p : Nat) (w : World) (hs : (o.size : Int) ≤ 1000000) (ho : bl o = u ++ h) (hu : ∀ x ∈ u, x = 35) (hp : ptL h = true) (hl : u.length = p) :
    Calls Tryd.prog 23 #[.string o, .int .i64 (p : Nat)] w fun e w' => e = .returned (.tuple #[.int .i64 ((p + (cnL h).1 : Nat) : Int), .int .i64 ((p + (cnL h).2 : Nat) : Int)]) ∧ Up w w' := by
  have hlen : p + h.length = o.size := by
    have := congrArg List.length ho
    rw [bl_len, List.length_append] at this
    omega
  have hdr : (bl o).drop p = h := by rw [ho, ← hl, List.drop_append, List.drop_length]; simp
  have HR0 := (fun W => rowBk_any (o.extract p o.size) W (by rw [ByteArray.size_extract]; omega))
  rw [← drop_bytes, hdr, ← skL_rw] at HR0
  have HC0 := (fun W => closed_any o W hs)
  have hcl := cl_cc hu hp
  have hcc := cc_le h
  have hcn := cn_prog hu hp
  rw [ho] at HC0
  obtain ⟨C, hC⟩ : ∃ C, clL (u ++ h) = C := ⟨_, rfl⟩
  rw [hC] at HC0 hcl hcn
  have HL0 := (fun W => last_any (o.extract 0 C) p W (by rw [ByteArray.size_extract]; omega) (by rw [ByteArray.size_extract]; omega))
  rw [← take_bytes, ho] at HL0
  rw [hl] at hcn
  obtain ⟨e2, he2⟩ : ∃ e2, laL (((u ++ h).take C).drop p) = e2 := ⟨_, rfl⟩
  obtain ⟨f2, hf2⟩ : ∃ f2, skL h = f2 := ⟨_, rfl⟩
  have he3 : e2 ≤ h.length := by
    rw [← he2]
    refine Nat.le_trans (laL_le _) ?_
    rw [List.length_drop, List.length_take, List.length_append]
    omega
  have hf3 : f2 ≤ h.length := by rw [← hf2]; exact skL_le h
  rw [he2, hf2] at hcn
  rw [he2] at HL0
  rw [hf2] at HR0
  obtain ⟨E, hE⟩ : ∃ E, p + e2 = E := ⟨_, rfl⟩
  obtain ⟨F, hF⟩ : ∃ F, p + f2 = F := ⟨_, rfl⟩
  rw [hE] at HL0
  have HR := Lib.hid HR0
  have HC := Lib.hid HC0
  have HL := Lib.hid HL0
  have p0 : (0 : Int) ≤ (p : Int) := by omega
  have p1 : (p : Int) ≤ o.size := by omega
  have c0 : (0 : Int) ≤ (C : Int) := by omega
  have c1 : (C : Int) ≤ o.size := by omega
  have HE1 := Lib.hid (show IntKind.i64.wrap ((p : Int) + (f2 : Nat)) = (F : Nat) from (IntWalk.i64_in _ (by omega)).trans (by omega))
  have HFE := Lib.hid (And.intro hE hF)
  have HCN := Lib.hid hcn
  by_cases hle : E ≤ F
  · have g0 : (E : Int) ≤ (F : Int) := by omega
    have HX := Lib.hid (show cnL h = (0, 0) by rw [← hcn, if_pos (by omega)])
    clear HR0 HC0 HL0 hcl hcc hcn hC he2 hf2 he3 hf3 hE hF hle hdr hlen hs ho hu hp hl
    go_enter Tryd.func23, Tryd.ntmps23
    have e1 := HE1.out
    go_wp2_with (first
      | (go_at_call 18; ((with_reducible refine (HR.out _).mono ?_); rintro e w1 ⟨rfl, rfl⟩))
      | (go_at_call 32; ((with_reducible refine (HC.out _).mono ?_); rintro e w1 ⟨rfl, hu1⟩; have HU1 := Lib.hid hu1; clear hu1))
      | (go_at_call 21; ((with_reducible refine (HL.out _).mono ?_); rintro e w2 ⟨rfl, hu2⟩; have HU2 := Lib.hid (HU1.out.trans hu2); clear hu2)))
    go_ret2
    exact ⟨by rw [HX.out]; rfl, HU2.out⟩
  · have g0 : ¬ ((E : Int) ≤ (F : Int)) := by omega
    have HX := Lib.hid (show cnL h = (f2, e2) by rw [← hcn, if_neg (by omega)])
    clear HR0 HC0 HL0 hcl hcc hcn hC he2 hf2 he3 hf3 hE hF hle hdr hlen hs ho hu hp hl
    go_enter Tryd.func23, Tryd.ntmps23
    have e1 := HE1.out
    go_wp2_with (first
      | (go_at_call 18; ((with_reducible refine (HR.out _).mono ?_); rintro e w1 ⟨rfl, rfl⟩))
      | (go_at_call 32; ((with_reducible refine (HC.out _).mono ?_); rintro e w1 ⟨rfl, hu1⟩; have HU1 := Lib.hid hu1; clear hu1))
      | (go_at_call 21; ((with_reducible refine (HL.out _).mono ?_); rintro e w2 ⟨rfl, hu2⟩; have HU2 := Lib.hid (HU1.out.trans hu2); clear hu2)))
    go_ret2
    exact ⟨by rw [HX.out, HFE.out.1, HFE.out.2]; rfl, HU2.out⟩
end Go.Proofs.YtopdbilkpkgccaaDoor
