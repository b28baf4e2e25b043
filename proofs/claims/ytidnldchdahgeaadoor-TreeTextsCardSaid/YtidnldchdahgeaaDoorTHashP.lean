/- A node's sum: the program's Hash. -/
import Derived.Test.YtidnldchdahgeaaDoorTKidsP
import Derived.Test.YtidnldchdahgeaaDoorTAddN
import Derived.Test.YtidnldchdahgeaaDoorTTab
import Derived.Laws.EntriesVeiled
namespace Go.Proofs.YtidnldchdahgeaaDoor
open Go.RowKit Go.Shelf
attribute [local go_sem] Oper.semAt_some

/-- A node's sum. -/
def sumT (L : List Nd) (n i : Nat) : Int := eatL 14695981039346656037 (sumNs L n i)
noncomputable def hashA (L : List Nd) (z : Int) : Int := if wrongT L z = 0 then sumT L L.length z.toNat else 0
/-- Where nothing panics, a panic's end need not be asked. -/
def calmQ (Q : Exit → Act → World → Prop) : Exit → Act → World → Prop
  | .normal, a, w => Q .normal a w
  | _, _, _ => False
theorem wpIn_calm {F : Fence} {n : Nat} {P : Program} {c : Code} {Q : Exit → Act → World → Prop} {a : Act} {w : World} (h : c.wpIn F n P (calmQ Q) a w) : c.wpIn F n P Q a w :=
  Go.wpIn_mono h fun e a w hq => by
    cases e with
    | normal => exact hq
    | _ => exact hq.elim
/-- What lies behind a piece of code that comes to its end. -/
theorem wpIn_via {F : Fence} {n : Nat} {P : Program} {c : Code} {Q : Exit → Act → World → Prop} {a : Act} {w : World} (M : Act → World → Prop) (h : c.wpIn F n P (calmQ fun _ a w => M a w) a w) (k : ∀ a w, M a w → Q .normal a w) : c.wpIn F n P Q a w :=
  Go.wpIn_mono h fun e a w hq => by
    cases e with
    | normal => exact k _ _ hq
    | _ => exact hq.elim
theorem mixedP : Tryd.prog.follows .mixedOrders = true := by kernel_rfl
/-- What stands between two rounds. -/
structure HashI (w : World) (Bs Ba Bn b o n c i : Nat) (L : List Nd) (pre : List Nat) (W : World) : Prop where
  bs : Boxed W Bs 48 (.int .u64 (eatL 14695981039346656037 (numsL L i (i :: pre))))
  bn : Boxed W Bn 74 (.func (.func 48) #[] #[.pointer (some ⟨Ba, 0, none⟩), .pointer (some ⟨w.heap.size, 0, none⟩), .pointer (some ⟨w.heap.size + 1, 0, none⟩)])
  as_ : AddS W Ba w.heap.size (w.heap.size + 1) Bs b o n c i (nd L i).2.1 (dep L i)
  up : Below w.heap.size w W
theorem HashI.grown {w X Y : World} {Bs Ba Bn b o n c i : Nat} {L : List Nd} {pre : List Nat} {row : Option Nat} {B : Nat} (h : HashI w Bs Ba Bn b o n c i L pre X) (hw : w.heap.size ≤ B) (hg : X.grownBy Y row) (hr : ∀ r, row = some r → B ≤ r ∧ ∃ o : Obj, X.heap[r]? = some o ∧ o.isCells = false) : HashI w Bs Ba Bn b o n c i L pre Y := by
  have ne : ∀ (b : Nat) (cs : Array Value) (t : TypeId) (fr : Nat × Nat), X.heap[b]? = some (Obj.cells cs t fr) → some b ≠ row := by
    intro b cs t fr hb e
    obtain ⟨-, o, ho, h1⟩ := hr b e.symm
    rw [hb] at ho
    cases ho
    cases h1
  obtain ⟨cs, t, fr, hbb⟩ := cell_block h.as_.cf
  refine ⟨h.bs.kept hg (ne _ _ _ _ h.bs), h.bn.kept hg (ne _ _ _ _ h.bn), h.as_.grown hg (fun x e => ⟨fun e2 => ne _ _ _ _ h.as_.ba (by rw [← e2, e]), fun e2 => ne _ _ _ _ h.as_.bl (by rw [← e2, e]), fun e2 => ne _ _ _ _ h.as_.bi (by rw [← e2, e]), fun e2 => ne _ _ _ _ hbb (by rw [← e2, e])⟩), h.up.grown hg (Below.size h.up) (fun k e => Nat.le_trans hw (hr k e).1)⟩
set_option maxRecDepth 100000 in
set_option maxHeartbeats 8000000 in
theorem hash_in (w : World) (A : Option Addr) (n c : Nat) (L : List Nd) (hL : NArg w A n L) (hc : n ≤ c) (hn : n ≤ 10000) (z : Int) :
    CallsIn Fence.wide 4 Tryd.prog 33 #[.slice A n c, .int .i64 z] w fun e w' => e = .returned (.tuple #[.int .u64 (hashA L z), .int .i64 (wrongT L z)]) ∧ Up w w' := by
  have hua : Up w ((w.alloc (.cells #[.slice A n c] 22)).alloc (.cells #[.int .i64 z] 3)) := (Up.alloc w _).trans (Up.alloc _ _)
  have hba : Boxed ((w.alloc (.cells #[.slice A n c] 22)).alloc (.cells #[.int .i64 z] 3)) w.heap.size 22 (.slice A n c) := (Boxed.new w _ _).alloc _
  have hbb : Boxed ((w.alloc (.cells #[.slice A n c] 22)).alloc (.cells #[.int .i64 z] 3)) (w.heap.size + 1) 3 (.int .i64 z) := by
    have := Boxed.new (w.alloc (.cells #[.slice A n c] 22)) 3 (.int .i64 z)
    rw [World.size_alloc] at this
    exact this
  have HC := Lib.hid (checkNode_any _ A n c L (hL.up hua) hc hn z)
  have ca := hba.cell
  have cb := hbb.cell
  by_cases hz : wrongT L z = 0
  case neg =>
    have HA := Lib.hid (show hashA L z = 0 by unfold hashA; rw [if_neg hz])
    obtain ⟨x, hx⟩ : ∃ x, wrongT L z = x := ⟨_, rfl⟩
    rw [hx] at HC hz ⊢
    have f0 : (x == 0) = false := beq_false_of_ne hz
    have HUa := Lib.hid hua
    clear hL hz hx hua hba hbb
    refine (callsIn_wide (n := 4)).2 ?_
    go_enter Tryd.func33, Tryd.ntmps33
    go_wp2_with (go_at_call 37; ((with_reducible refine HC.out.mono ?_); rintro e w1 ⟨rfl, hu1⟩; have HU1 := Lib.hid hu1; clear hu1))
    go_ret2
    exact ⟨ret_ii HA.out.symm rfl, HUa.out.trans HU1.out⟩
  case pos =>
    obtain ⟨hF, h0, h1⟩ := wrong_zero hz
    have hl := hL.nds.len
    have hG : Good L n := hl ▸ hF.good
    obtain ⟨i, rfl⟩ : ∃ i : Nat, z = (i : Nat) := ⟨z.toNat, by omega⟩
    have hin : i < n := by omega
    have HA := Lib.hid (show hashA L ((i : Nat) : Int) = sumT L n i by unfold hashA; rw [if_pos hz, hl, Int.toNat_natCast])
    rw [hz] at HC ⊢
    obtain ⟨b, o, rfl, hbw, k0, k1, k2, k3⟩ := nds_nd hL.nds i hin
    have HIn := Lib.hid (fit_in hF hL.ok (by omega))
    have HL := Lib.hid hL.nds
    have HUa := Lib.hid hua
    have HBa := Lib.hid hba
    have HBb := Lib.hid hbb
    have HBW := Lib.hid hbw
    have HLl := Lib.hid hl
    have HG := Lib.hid hG
    clear hz hL hba hbb hF h0 h1 hl hG hbw
    replace k0 := cell_up hua k0
    replace k1 := cell_up hua k1
    replace k2 := cell_up hua k2
    replace k3 := cell_up hua k3
    have j2 : (i : Int) < n := by omega
    clear hua
    refine callsIn_of_wp_marks Tryd.func33 rfl trivial ?_ rfl
    simp only [Tryd.ntmps33, List.size_toArray, List.length_cons, List.length_nil, Nat.reduceAdd, Nat.reduceSub, Array.replicate_succ, Array.replicate_zero, List.push_toArray, List.append_toArray, List.nil_append, List.cons_append]
    gi_wp2_with (refine ⟨trivial, ?_⟩; gi_at_call 37; ((with_reducible refine ((callsIn_wide (n := 3)).2 HC.out).mono ?_); rintro e w1 ⟨rfl, hu1⟩; have HU1 := Lib.hid hu1; clear hu1))
    obtain ⟨w2, hw2⟩ : ∃ w2, ((w1.alloc (.cells #[.int .u64 14695981039346656037] 48)).alloc (.cells #[(.func (.func 47) #[] #[.pointer (some ⟨w1.heap.size, 0, none⟩)])] 73)).alloc (.cells #[(.func (.func 48) #[] #[.pointer (some ⟨w1.heap.size + 1, 0, none⟩), .pointer (some ⟨w.heap.size, 0, none⟩), .pointer (some ⟨w.heap.size + 1, 0, none⟩)])] 74) = w2 := ⟨_, rfl⟩
    have hu2 : Up w1 w2 := by rw [← hw2]; exact ((Up.alloc w1 _).trans (Up.alloc _ _)).trans (Up.alloc _ _)
    have hsz : w2.heap.size = w1.heap.size + 3 := by rw [← hw2]; simp
    have hbs : Boxed w2 w1.heap.size 48 (.int .u64 14695981039346656037) := by rw [← hw2]; exact ((Boxed.new w1 _ _).alloc _).alloc _
    have hbA : Boxed w2 (w1.heap.size + 1) 73 (.func (.func 47) #[] #[.pointer (some ⟨w1.heap.size, 0, none⟩)]) := by
      rw [← hw2]
      have := (Boxed.new (w1.alloc (.cells #[.int .u64 14695981039346656037] 48)) 73 (.func (.func 47) #[] #[.pointer (some ⟨w1.heap.size, 0, none⟩)])).alloc (.cells #[(.func (.func 48) #[] #[.pointer (some ⟨w1.heap.size + 1, 0, none⟩), .pointer (some ⟨w.heap.size, 0, none⟩), .pointer (some ⟨w.heap.size + 1, 0, none⟩)])] 74)
      rw [World.size_alloc] at this
      exact this
    have hbN : Boxed w2 (w1.heap.size + 1 + 1) 74 (.func (.func 48) #[] #[.pointer (some ⟨w1.heap.size + 1, 0, none⟩), .pointer (some ⟨w.heap.size, 0, none⟩), .pointer (some ⟨w.heap.size + 1, 0, none⟩)]) := by
      rw [← hw2]
      have := Boxed.new ((w1.alloc (.cells #[.int .u64 14695981039346656037] 48)).alloc (.cells #[(.func (.func 47) #[] #[.pointer (some ⟨w1.heap.size, 0, none⟩)])] 73)) 74 (.func (.func 48) #[] #[.pointer (some ⟨w1.heap.size + 1, 0, none⟩), .pointer (some ⟨w.heap.size, 0, none⟩), .pointer (some ⟨w.heap.size + 1, 0, none⟩)])
      rw [World.size_alloc, World.size_alloc] at this
      exact this
    have hu12 := Up.trans HU1.out hu2
    have hup : Up w w2 := HUa.out.trans hu12
    have hp0 := Boxed.kept HBa.out (Up.grownBy hu12) (fun e => by cases e)
    have hp1 := Boxed.kept HBb.out (Up.grownBy hu12) (fun e => by cases e)
    have hs1 : w.heap.size + 2 ≤ w1.heap.size := by have := Below.size HU1.out; simp at this; omega
    replace k0 := cell_up hu12 k0
    replace k1 := cell_up hu12 k1
    replace k2 := cell_up hu12 k2
    replace k3 := cell_up hu12 k3
    simp only [hw2]
    clear hw2
    obtain ⟨Bs, hBs⟩ : ∃ Bs, w1.heap.size = Bs := ⟨_, rfl⟩
    rw [hBs] at hbs hbA hbN hsz hs1
    simp only [hBs]
    have hAS : AddS w2 (Bs + 1) w.heap.size (w.heap.size + 1) Bs b o n c i (nd L i).2.1 (dep L i) := ⟨hbA, hp0, hp1, k1, k3⟩
    have hne : Bs ≠ Bs + 1 ∧ Bs ≠ w.heap.size ∧ Bs ≠ w.heap.size + 1 ∧ Bs ≠ b := ⟨by omega, by omega, by omega, by have := HBW.out; omega⟩
    have hnum : ∀ k, k < n → IntKind.i64.wrap (nd L k).1 = (nd L k).1 ∧ IntKind.i64.wrap (dep L k - dep L i) = dep L k - dep L i ∧ IntKind.i64.wrap ((nd L k).2.1 - (nd L i).2.1) = (nd L k).2.1 - (nd L i).2.1 ∧ IntKind.i64.wrap ((nd L k).2.2.1 - (nd L i).2.1) = (nd L k).2.2.1 - (nd L i).2.1 := fun k hk => by
      obtain ⟨⟨⟨a0, a1⟩, ⟨a2, a3⟩, ⟨a4, a5⟩, -⟩, -, -, a6⟩ := HIn.out (k + 1) k (Nat.lt_succ_self k) (by rw [HLl.out]; exact hk)
      obtain ⟨⟨-, ⟨b2, b3⟩, -, -⟩, -, -, b6⟩ := HIn.out (i + 1) i (Nat.lt_succ_self i) (by rw [HLl.out]; exact hin)
      have d1 := (HG.out.len hk).2
      have d2 := (HG.out.len hin).2
      exact ⟨IntWalk.i64_in _ (by omega), IntWalk.i64_in _ (by omega), IntWalk.i64_in _ (by omega), IntWalk.i64_in _ (by omega)⟩
    have HNum := Lib.hid hnum
    have HAn := Lib.hid (fun W h k (hk : k < n) (hS : AddS W (Bs + 1) w.heap.size (w.heap.size + 1) Bs b o n c i (nd L i).2.1 (dep L i)) (hb : Boxed W Bs 48 (.int .u64 h)) => show Calls Tryd.prog 48 #[.agg #[.int .u8 (nd L k).1, .int .i64 (nd L k).2.1, .int .i64 (nd L k).2.2.1, .int .i64 (nd L k).2.2.2], .pointer (some ⟨Bs + 1, 0, none⟩), .pointer (some ⟨w.heap.size, 0, none⟩), .pointer (some ⟨w.heap.size + 1, 0, none⟩)] W fun e w' => e = .returned (.tuple #[]) ∧ Boxed w' Bs 48 (.int .u64 (eatL h (nums L i k))) ∧ W.grownBy w' (some Bs) from
      addNode_any W (Bs + 1) w.heap.size (w.heap.size + 1) Bs b o n c i _ _ _ _ _ _ h hS hne hin hb (hnum k hk).1 (hnum k hk).2.1 (hnum k hk).2.2.1 (hnum k hk).2.2.2)
    have HC1 := Lib.hid (HAn.out w2.drew _ i hin (hAS.grown (Up.grownBy (Up.drew w2)) (fun x e => by cases e)) hbs)
    have ca2 := hp0.cell
    have cb2 := hp1.cell
    have cn2 := hbN.cell
    obtain ⟨⟨x0, x1, x2, x3⟩, hx⟩ : ∃ x, nd L i = x := ⟨_, rfl⟩
    rw [hx] at k0 k1 k2 k3
    rw [hx] at HC1
    dsimp only at k0 k1 k2 k3 HC1
    have HX := Lib.hid hx
    have HAS := Lib.hid hAS
    have HBN := Lib.hid hbN
    have HUP := Lib.hid hup
    have hmx := mixedP
    clear hx hAS hbN hup hbs hbA hu12 hp0 hp1 hnum ca cb hu2 HBa HBb HC
    refine wpIn_via (fun a w' => a = { tmps := #[.slice (some ⟨b, o, none⟩) n c, .int .i64 (i : Nat), .pointer (some ⟨w.heap.size, 0, none⟩), .pointer (some ⟨w.heap.size + 1, 0, none⟩), .int .u64 0, .int .i64 0, .int .i64 0, .pointer (some ⟨Bs, 0, none⟩), .pointer (some ⟨Bs + 1, 0, none⟩), .pointer (some ⟨Bs + 1 + 1, 0, none⟩), undef, .slice (some ⟨b, o, none⟩) n c, .int .i64 (i : Nat), .int .i64 0, .int .i64 0, .bool false, undef, .func (.func 47) #[] #[.pointer (some ⟨Bs, 0, none⟩)], .func (.func 48) #[] #[.pointer (some ⟨Bs + 1, 0, none⟩), .pointer (some ⟨w.heap.size, 0, none⟩), .pointer (some ⟨w.heap.size + 1, 0, none⟩)], .func (.func 48) #[] #[.pointer (some ⟨Bs + 1, 0, none⟩), .pointer (some ⟨w.heap.size, 0, none⟩), .pointer (some ⟨w.heap.size + 1, 0, none⟩)], .slice (some ⟨b, o, none⟩) n c, .int .i64 (i : Nat), .pointer (some ⟨b, o + i * 4, none⟩), .agg #[.int .u8 x0, .int .i64 x1, .int .i64 x2, .int .i64 x3], .tuple #[], undef, undef, undef, undef, undef, undef, undef, undef, undef, undef, undef], defers := [] } ∧ Boxed w' Bs 48 (.int .u64 (eatL 14695981039346656037 (nums L i i))) ∧ w2.drew.grownBy w' (some Bs)) ?_ ?_
    · gi_region_with_o ((refine ⟨trivial, ?_⟩; gi_at_call 48; ((with_reducible refine ((callsIn_wide (n := 3)).2 HC1.out).mono ?_); rintro e w3 ⟨rfl, hb3, hg3⟩)))
      all_goals exact ⟨rfl, hb3, hg3⟩
    rintro a w3 ⟨rfl, hb3, hg3⟩
    have hAS3 := (HAS.out.grown (Up.grownBy (Up.drew w2)) (fun x e => by cases e)).grown hg3 (fun x e => by cases e; exact ⟨hne.1, hne.2.1, hne.2.2.1, hne.2.2.2⟩)
    have hbn3 := (Boxed.kept HBN.out (Up.grownBy (Up.drew w2)) (fun e => by cases e)).kept hg3 (fun e => by injection e with e; omega)
    have hup3 : Up w w3 := (HUP.out.trans (Up.drew w2)).grown hg3 (Below.size (HUP.out.trans (Up.drew w2))) (fun k e => by cases e; omega)
    have hsz3 : w2.heap.size ≤ w3.heap.size := hg3.size
    have HI3 := Lib.hid (show HashI w Bs (Bs + 1) (Bs + 1 + 1) b o n c i L [] w3 from ⟨by show Boxed w3 Bs _ (.int .u64 (eatL _ (nums L i i ++ []))); rw [List.append_nil]; exact hb3, hbn3, hAS3, hup3⟩)
    have ca3 := hAS3.bl.cell
    have cb3 := hAS3.bi.cell
    clear hAS3 hbn3 hb3 hg3 ca2 cb2 cn2 k0 k1 k2 k3 HC1 HAS HBN
    gi_wp2_with (refine ⟨trivial, ?_⟩; gi_at_call 39; ((with_reducible refine ((callsIn_wide (n := 3)).2 (within_any _ _ _ _ _)).mono ?_); rintro e w4 ⟨rfl, rfl⟩))
    obtain ⟨w4, hw4⟩ : ∃ w4, ((w3.alloc (Obj.cells #[Value.slice (some { block := b, off := o }) n c] 22)).alloc (Obj.cells #[Value.int IntKind.i64 (i : Nat)] 3)) = w4 := ⟨_, rfl⟩
    have hu4 : Up w3 w4 := by rw [← hw4]; exact (Up.alloc w3 _).trans (Up.alloc _ _)
    have hsz4 : w4.heap.size = w3.heap.size + 2 := by rw [← hw4]; simp
    have hbl : Boxed w4 w3.heap.size 22 (.slice (some ⟨b, o, none⟩) n c) := by rw [← hw4]; exact (Boxed.new w3 _ _).alloc _
    have hbi : Boxed w4 (w3.heap.size + 1) 3 (.int .i64 (i : Nat)) := by
      rw [← hw4]
      have := Boxed.new (w3.alloc (Obj.cells #[Value.slice (some { block := b, off := o }) n c] 22)) 3 (.int .i64 (i : Nat))
      rw [World.size_alloc] at this
      exact this
    simp only [hw4]
    clear hw4 ca3 cb3
    have hI0 : HashI w Bs (Bs + 1) (Bs + 1 + 1) b o n c i L [] w4 := HI3.out.grown (B := w.heap.size) (Nat.le_refl _) (Up.grownBy hu4) (fun r e => by cases e)
    have hWit : WitS w4 (w3.heap.size + 1) w3.heap.size b o n c i L := ⟨hbi, hbl, HL.out.up (hup3.trans hu4)⟩
    have hTells : Tells Fence.wide 3 Tryd.prog 50 #[.pointer (some ⟨w3.heap.size + 1, 0, none⟩), .pointer (some ⟨w3.heap.size, 0, none⟩)] encN (KpS fun k => k ≠ Bs) (fun _ => False) (subL L n i) w4 := fun l J W hW hJ hY h0 =>
      within1_in 3 (by omega) l _ _ b o n c i L (fun k => k ≠ Bs) (show w3.heap.size + 1 ≠ Bs by omega) (show w3.heap.size ≠ Bs by omega) (fun e => hne.2.2.2 e.symm) hin hn J W hJ hY (hWit.up hW) h0
    have hw4s : w.heap.size ≤ w4.heap.size := by omega
    obtain ⟨Bw, hBw⟩ : ∃ Bw, w3.heap.size = Bw := ⟨_, rfl⟩
    rw [hBw] at hTells
    simp only [hBw]
    clear hWit hbl hbi hu4 HI3 hBw hup3
    refine range_tells rfl (by omega) (gf := 50) (lb := #[.pointer (some ⟨Bw + 1, 0, none⟩), .pointer (some ⟨Bw, 0, none⟩)]) rfl trivial (enters_of Tryd.func50 (by kernel_rfl) rfl)
      hTells no_cells kpS_t kpS_b (fun _ => rfl)
      (fun pre W => HashI w Bs (Bs + 1) (Bs + 1 + 1) b o n c i L pre W)
      (fun s X Y row h hg hr => h.grown (B := w.heap.size) (Nat.le_refl _) hg (fun r e => ⟨by have := (hr r e).1; omega, by obtain ⟨-, ob, h1, h2⟩ := hr r e; exact ⟨ob, h1, h2.elim id False.elim⟩⟩))
      hI0
      (fun x => { tmps := #[.slice (some ⟨b, o, none⟩) n c, .int .i64 (i : Nat), .pointer (some ⟨w.heap.size, 0, none⟩), .pointer (some ⟨w.heap.size + 1, 0, none⟩), .int .u64 0, .int .i64 0, .int .i64 0, .pointer (some ⟨Bs, 0, none⟩), .pointer (some ⟨Bs + 1, 0, none⟩), .pointer (some ⟨Bs + 1 + 1, 0, none⟩), .int .i64 (x : Nat), .slice (some ⟨b, o, none⟩) n c, .int .i64 (i : Nat), .int .i64 0, .int .i64 0, .bool false, undef, .func (.func 47) #[] #[.pointer (some ⟨Bs, 0, none⟩)], .func (.func 48) #[] #[.pointer (some ⟨Bs + 1, 0, none⟩), .pointer (some ⟨w.heap.size, 0, none⟩), .pointer (some ⟨w.heap.size + 1, 0, none⟩)], .func (.func 48) #[] #[.pointer (some ⟨Bs + 1, 0, none⟩), .pointer (some ⟨w.heap.size, 0, none⟩), .pointer (some ⟨w.heap.size + 1, 0, none⟩)], .slice (some ⟨b, o, none⟩) n c, .int .i64 (i : Nat), .pointer (some ⟨b, o + i * 4, none⟩), .agg #[.int .u8 x0, .int .i64 x1, .int .i64 x2, .int .i64 x3], .tuple #[], .slice (some ⟨b, o, none⟩) n c, .int .i64 (i : Nat), .func (.func 50) #[] #[.pointer (some ⟨Bw + 1, 0, none⟩), .pointer (some ⟨Bw, 0, none⟩)], .int .i64 (x : Nat), undef, undef, undef, undef, undef, undef, undef], defers := [] }) ?assign ?body ?done
    case assign =>
      intro l x W K' hK'
      gi_wp2
      exact hK'
    case body =>
      rintro l pre x W hK hpre
      have hxm : x ∈ subL L n i := hpre.subset (by simp)
      have hxb := subR_mem L i _ _ x hxm
      have hxn : x < n := by omega
      obtain ⟨a, o2, hA, -, m0, m1, m2, m3⟩ := nds_nd (HL.out.up hK.up) x hxn
      obtain ⟨e1, e2⟩ : a = b ∧ o2 = o := by injection hA with e; injection e with e1 e2; exact ⟨e1.symm, e2.symm⟩
      rw [e1, e2] at m0 m1 m2 m3
      have HCx := Lib.hid (HAn.out W.drew _ x hxn (hK.as_.grown (Up.grownBy (Up.drew W)) (fun q e => by cases e)) hK.bs)
      obtain ⟨⟨y0, y1, y2, y3⟩, hy⟩ : ∃ y, nd L x = y := ⟨_, rfl⟩
      rw [hy] at m0 m1 m2 m3
      rw [hy] at HCx
      dsimp only at m0 m1 m2 m3 HCx
      have cbl := hK.as_.bl.cell
      have cbi := hK.as_.bi.cell
      have cbn := hK.bn.cell
      have j1 : (x : Int) < n := by omega
      have HK := Lib.hid hK
      have HSn := Lib.hid (show eatL (eatL 14695981039346656037 (numsL L i (i :: pre))) (nums L i x) = eatL 14695981039346656037 (numsL L i (i :: (pre ++ [x]))) by
        rw [← eatL_app]
        show _ = eatL _ (numsL L i ((i :: pre) ++ [x]))
        rw [numsL_snoc])
      clear hA hy hxm hxb hpre hK e1 e2
      gi_wp2
      refine wpIn_via (fun a w' => a = { tmps := #[.slice (some ⟨b, o, none⟩) n c, .int .i64 (i : Nat), .pointer (some ⟨w.heap.size, 0, none⟩), .pointer (some ⟨w.heap.size + 1, 0, none⟩), .int .u64 0, .int .i64 0, .int .i64 0, .pointer (some ⟨Bs, 0, none⟩), .pointer (some ⟨Bs + 1, 0, none⟩), .pointer (some ⟨Bs + 1 + 1, 0, none⟩), .int .i64 (x : Nat), .slice (some ⟨b, o, none⟩) n c, .int .i64 (i : Nat), .int .i64 0, .int .i64 0, .bool false, undef, .func (.func 47) #[] #[.pointer (some ⟨Bs, 0, none⟩)], .func (.func 48) #[] #[.pointer (some ⟨Bs + 1, 0, none⟩), .pointer (some ⟨w.heap.size, 0, none⟩), .pointer (some ⟨w.heap.size + 1, 0, none⟩)], .func (.func 48) #[] #[.pointer (some ⟨Bs + 1, 0, none⟩), .pointer (some ⟨w.heap.size, 0, none⟩), .pointer (some ⟨w.heap.size + 1, 0, none⟩)], .slice (some ⟨b, o, none⟩) n c, .int .i64 (i : Nat), .pointer (some ⟨b, o + i * 4, none⟩), .agg #[.int .u8 x0, .int .i64 x1, .int .i64 x2, .int .i64 x3], .tuple #[], .slice (some ⟨b, o, none⟩) n c, .int .i64 (i : Nat), .func (.func 50) #[] #[.pointer (some ⟨Bw + 1, 0, none⟩), .pointer (some ⟨Bw, 0, none⟩)], .int .i64 (x : Nat), .func (.func 48) #[] #[.pointer (some ⟨Bs + 1, 0, none⟩), .pointer (some ⟨w.heap.size, 0, none⟩), .pointer (some ⟨w.heap.size + 1, 0, none⟩)], .slice (some ⟨b, o, none⟩) n c, .int .i64 (x : Nat), .pointer (some ⟨b, o + x * 4, none⟩), .agg #[.int .u8 y0, .int .i64 y1, .int .i64 y2, .int .i64 y3], .tuple #[], undef], defers := [] } ∧ Boxed w' Bs 48 (.int .u64 (eatL (eatL 14695981039346656037 (numsL L i (i :: pre))) (nums L i x))) ∧ W.drew.grownBy w' (some Bs)) ?_ ?_
      · gi_region_with_o ((refine ⟨trivial, ?_⟩; gi_at_call 48; ((with_reducible refine (CallsIn.inRound l ((callsIn_wide (n := 1)).2 HCx.out)).mono ?_); rintro e w5 ⟨rfl, hb5, hg5⟩)))
        all_goals exact ⟨rfl, hb5, hg5⟩
      rintro a w5 ⟨rfl, hb5, hg5⟩
      have hdw := Up.grownBy (Up.drew W)
      have hrn : ∀ r, (some Bs : Option Nat) = some r → r = Bs := fun r e => by injection e with e; exact e.symm
      have hkg : KeepsOthers W w5 := (KeepsOthers.drew W).trans (KeepsOthers.of_grownBy hg5 fun j ob e hj => by
        have h6 := hrn j e
        rw [h6] at hj
        have h7 : W.drew.heap[Bs]? = some _ := HK.out.bs
        rw [hj] at h7
        cases h7
        rfl)
      refine ⟨hkg, kpS_t (kpS_up (Up.drew W)) (kpS_grown hg5 fun r e h => h (hrn r e)), ?_⟩
      refine ⟨?_, (Boxed.kept HK.out.bn hdw (fun e => by cases e)).kept hg5 (fun e => by injection e with e; omega), (HK.out.as_.grown hdw (fun q e => by cases e)).grown hg5 (fun q e => by rw [hrn q e]; exact ⟨hne.1, hne.2.1, hne.2.2.1, hne.2.2.2⟩), (Below.drew HK.out.up).grown hg5 (Below.size (Below.drew HK.out.up)) (fun k e => by rw [hrn k e]; omega)⟩
      rw [← HSn.out]
      exact hb5
    case done =>
      rintro E W hE hK hKD
      have HK := Lib.hid hK
      have cl := hK.bs.cell
      clear hK
      gi_wp2
      refine ⟨by simp, .inl ⟨_, _, rfl, run_takeDeferred hKD, ?_⟩⟩
      refine ⟨_, results_tmp2 rfl _ _ _, by show Ending.returned (.tuple #[.int .u64 (sumT L n i), .int .i64 0]) = _; rw [HA.out], Below.trans HK.out.up (belowK_b (w := w) (Nat.le_refl _) W E _ _ (Nat.le_trans hw4s hE) hKD rfl rfl)⟩
end Go.Proofs.YtidnldchdahgeaaDoor
