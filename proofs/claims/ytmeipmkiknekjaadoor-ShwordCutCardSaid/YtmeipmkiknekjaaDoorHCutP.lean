/- The great regions of ShwordCut. -/
import Derived.Test.YtmeipmkiknekjaaDoorHLawA
import Derived.Deep.QuietTactic
import Derived.BigQuiet
namespace Go.Proofs.YtmeipmkiknekjaaDoor
open Go.RowKit
set_option linter.unusedVariables false

noncomputable def kReg7 : Code := ((Tryd.f7.body.bind (cReg 7)).getD .skip)
noncomputable def kReg21 : Code := ((Tryd.f7.body.bind (cReg 21)).getD .skip)
variable {u0 u1 u2 u3 u4 u5 u6 u7 u8 u9 u10 u11 u12 u13 u14 u15 u16 u17 u18 u19 u20 u21 u22 u23 u24 u25 u26 u27 u28 u29 u30 u31 u32 u33 u34 u35 u36 u37 u38 u39 u40 u41 u42 u43 u44 u45 u46 u47 u48 u49 u50 u51 u52 u53 u54 u55 u56 u57 u58 u59 u60 u61 u62 u63 u64 u65 u66 u67 u68 u69 u70 u71 u72 u73 u74 u75 u76 u77 u78 u79 u80 u81 u82 u83 u84 u85 u86 u87 u88 u89 u90 u91 u92 u93 u94 u95 u96 u97 u98 u99 u100 u101 u102 u103 u104 u105 u106 u107 u108 u109 u110 u111 u112 u113 u114 u115 u116 u117 u118 u119 u120 u121 u122 u123 u124 u125 u126 u127 u128 u129 u130 u131 u132 u133 u134 u135 u136 u137 u138 u139 u140 u141 u142 u143 u144 u145 u146 u147 u148 u149 u150 u151 u152 u153 u154 u155 u156 u157 u158 u159 u160 u161 : Value}
set_option maxRecDepth 1000000 in
set_option maxHeartbeats 16000000 in
theorem cut7 {W : World} {line : ByteArray} {k n : Nat} (hkn : k < n) (hkl : k < line.size) (hd : isW (bt line k) = true) (hs : (line.size : Int) ≤ 1000000) (hno : k = 0 ∨ bt line (k - 1) ≠ 10) (Q : Exit → Act → World → Prop)
    (hQ : ∀ (y36 y37 y38 y39 y40 y41 y42 y43 y44 y45 y46 y47 y48 y49 y50 y51 y52 y53 y54 y55 y56 y57 y58 y59 y60 y61 y62 y63 y64 : Value), Q .normal ⟨((Value.string line) :: (Value.int .i64 (k : Nat)) :: u2 :: u3 :: u4 :: u5 :: u6 :: (Value.int .i64 (n : Nat)) :: u8 :: u9 :: u10 :: u11 :: u12 :: u13 :: u14 :: u15 :: u16 :: u17 :: u18 :: u19 :: u20 :: u21 :: u22 :: u23 :: u24 :: u25 :: u26 :: u27 :: u28 :: u29 :: u30 :: u31 :: u32 :: u33 :: u34 :: u35 :: y36 :: y37 :: y38 :: y39 :: y40 :: y41 :: y42 :: y43 :: y44 :: y45 :: y46 :: y47 :: y48 :: y49 :: y50 :: y51 :: y52 :: y53 :: y54 :: y55 :: y56 :: y57 :: y58 :: y59 :: y60 :: y61 :: y62 :: y63 :: y64 :: (Value.bool false) :: u66 :: u67 :: u68 :: u69 :: u70 :: u71 :: u72 :: u73 :: u74 :: u75 :: u76 :: u77 :: u78 :: u79 :: u80 :: u81 :: u82 :: u83 :: u84 :: u85 :: u86 :: u87 :: u88 :: u89 :: u90 :: u91 :: u92 :: u93 :: u94 :: u95 :: u96 :: u97 :: u98 :: u99 :: u100 :: u101 :: u102 :: u103 :: u104 :: u105 :: u106 :: u107 :: u108 :: u109 :: u110 :: u111 :: u112 :: u113 :: u114 :: u115 :: u116 :: u117 :: u118 :: u119 :: u120 :: u121 :: u122 :: u123 :: u124 :: u125 :: u126 :: u127 :: u128 :: u129 :: u130 :: u131 :: u132 :: u133 :: u134 :: u135 :: u136 :: u137 :: u138 :: u139 :: u140 :: u141 :: u142 :: u143 :: u144 :: u145 :: u146 :: u147 :: u148 :: u149 :: u150 :: u151 :: u152 :: u153 :: u154 :: u155 :: u156 :: u157 :: u158 :: u159 :: u160 :: u161 :: []).toArray, []⟩ W) :
    Code.wp Tryd.prog kReg7 Q ⟨((Value.string line) :: (Value.int .i64 (k : Nat)) :: u2 :: u3 :: u4 :: u5 :: u6 :: (Value.int .i64 (n : Nat)) :: u8 :: u9 :: u10 :: u11 :: u12 :: u13 :: u14 :: u15 :: u16 :: u17 :: u18 :: u19 :: u20 :: u21 :: u22 :: u23 :: u24 :: u25 :: u26 :: u27 :: u28 :: u29 :: u30 :: u31 :: u32 :: u33 :: u34 :: u35 :: u36 :: u37 :: u38 :: u39 :: u40 :: u41 :: u42 :: u43 :: u44 :: u45 :: u46 :: u47 :: u48 :: u49 :: u50 :: u51 :: u52 :: u53 :: u54 :: u55 :: u56 :: u57 :: u58 :: u59 :: u60 :: u61 :: u62 :: u63 :: u64 :: u65 :: u66 :: u67 :: u68 :: u69 :: u70 :: u71 :: u72 :: u73 :: u74 :: u75 :: u76 :: u77 :: u78 :: u79 :: u80 :: u81 :: u82 :: u83 :: u84 :: u85 :: u86 :: u87 :: u88 :: u89 :: u90 :: u91 :: u92 :: u93 :: u94 :: u95 :: u96 :: u97 :: u98 :: u99 :: u100 :: u101 :: u102 :: u103 :: u104 :: u105 :: u106 :: u107 :: u108 :: u109 :: u110 :: u111 :: u112 :: u113 :: u114 :: u115 :: u116 :: u117 :: u118 :: u119 :: u120 :: u121 :: u122 :: u123 :: u124 :: u125 :: u126 :: u127 :: u128 :: u129 :: u130 :: u131 :: u132 :: u133 :: u134 :: u135 :: u136 :: u137 :: u138 :: u139 :: u140 :: u141 :: u142 :: u143 :: u144 :: u145 :: u146 :: u147 :: u148 :: u149 :: u150 :: u151 :: u152 :: u153 :: u154 :: u155 :: u156 :: u157 :: u158 :: u159 :: u160 :: u161 :: []).toArray, []⟩ W := by
  conv => arg 2; whnf
  refine wp_onlyN ?_
  have HQ := Lib.hid hQ
  clear hQ
  obtain ⟨d, hdd⟩ : ∃ d, bt line k = d := ⟨_, rfl⟩
  rw [hdd] at hd
  have hjx : line[k].toNat = d := by rw [bt_eq hkl]; exact hdd
  have hd2 : d = 32 ∨ d = 9 := by unfold isW at hd; simpa using hd
  have j0 : ¬ ((k : Int) < 0) := by omega
  have j1 : ¬ ((n : Int) ≤ (k : Int)) := by omega
  have j4 : decide (n ≤ k) = false := decide_eq_false (by omega)
  have j2 : (0 : Int) ≤ (k : Int) := by omega
  have j3 : (k : Int) < line.size := by omega
  have HS := Lib.hid hs
  clear hd hs hdd
  by_cases hk0 : k = 0
  · subst hk0
    clear hno
    rcases hd2 with rfl | rfl
    all_goals
      go_wp2
      exact HQ.out _ _ _ _ _ _ _ _ _ _ _ _ _ _ _ _ _ _ _ _ _ _ _ _ _ _ _ _ _
  · obtain ⟨j, hj⟩ : ∃ j, k = j + 1 := ⟨k - 1, by omega⟩
    have hne : bt line j ≠ 10 := by have := hno.resolve_left hk0; rwa [hj, Nat.add_sub_cancel] at this
    have jl2 : j < line.size := by omega
    obtain ⟨e, he⟩ : ∃ e, bt line j = e := ⟨_, rfl⟩
    have hjy : line[j].toNat = e := by rw [bt_eq jl2]; exact he
    rw [he] at hne
    have n1 : ((e : Int) == 10) = false := beq_eq_false_iff_ne.2 (by omega)
    have i5 : (0 : Int) < (k : Int) := by omega
    have i6 : (0 : Int) ≤ (j : Int) := by omega
    have i7 : (j : Int) < line.size := by omega
    have i8 : IntKind.i64.wrap ((k : Int) - 1) = (j : Nat) := (IntWalk.i64_in _ (by have := HS.out; omega)).trans (by omega)
    clear hne he hno hk0 hj
    rcases hd2 with rfl | rfl
    all_goals
      go_wp2
      exact HQ.out _ _ _ _ _ _ _ _ _ _ _ _ _ _ _ _ _ _ _ _ _ _ _ _ _ _ _ _ _
set_option maxRecDepth 1000000 in
set_option maxHeartbeats 16000000 in
theorem cut21 {W : World} {A B : Option Addr} {g N c NA cA NB cB i kd xa xb : Nat} {X : ByteArray} {rw1 wh : Bool} (hi : i < N) (hN : N ≤ 1000000) (c0 : W.cell? ⟨g, i * 6, none⟩ = some (.int .u8 (kd : Nat))) (c1 : W.cell? ⟨g, i * 6 + 1, none⟩ = some (.int .i64 (xa : Nat))) (c2 : W.cell? ⟨g, i * 6 + 2, none⟩ = some (.int .i64 (xb : Nat))) (c3 : W.cell? ⟨g, i * 6 + 3, none⟩ = some (.string X)) (c4 : W.cell? ⟨g, i * 6 + 4, none⟩ = some (.bool rw1)) (c5 : W.cell? ⟨g, i * 6 + 5, none⟩ = some (.bool wh))
    (hc : (i < NA ∧ ∃ ga, A = some ⟨ga, 0, none⟩ ∧ W.cell? ⟨ga, i * 6, none⟩ = some (.int .u8 (kd : Nat)) ∧ W.cell? ⟨ga, i * 6 + 1, none⟩ = some (.int .i64 (xa : Nat)) ∧ W.cell? ⟨ga, i * 6 + 2, none⟩ = some (.int .i64 (xb : Nat)) ∧ W.cell? ⟨ga, i * 6 + 3, none⟩ = some (.string X) ∧ W.cell? ⟨ga, i * 6 + 4, none⟩ = some (.bool rw1) ∧ W.cell? ⟨ga, i * 6 + 5, none⟩ = some (.bool wh)) ∨ (∃ j, i = NA + j ∧ j < NB ∧ ∃ gb, B = some ⟨gb, 0, none⟩ ∧ W.cell? ⟨gb, j * 6, none⟩ = some (.int .u8 (kd : Nat)) ∧ W.cell? ⟨gb, j * 6 + 1, none⟩ = some (.int .i64 (xa : Nat)) ∧ W.cell? ⟨gb, j * 6 + 2, none⟩ = some (.int .i64 (xb : Nat)) ∧ W.cell? ⟨gb, j * 6 + 3, none⟩ = some (.string X) ∧ W.cell? ⟨gb, j * 6 + 4, none⟩ = some (.bool rw1) ∧ W.cell? ⟨gb, j * 6 + 5, none⟩ = some (.bool wh))) (Q : Exit → Act → World → Prop)
    (hQ : ∀ (y126 y127 y128 y129 y130 y131 y132 y133 y134 y135 y136 y137 y138 y139 y140 y141 y142 y143 y144 y145 y146 y147 y148 y149 y150 y151 y152 y153 y154 y155 y156 y157 y158 y159 : Value) (m : Nat), Q .normal ⟨(u0 :: u1 :: u2 :: u3 :: u4 :: (Value.slice (some ⟨g, 0, none⟩) N c) :: u6 :: u7 :: u8 :: (Value.slice A NA cA) :: u10 :: (Value.slice B NB cB) :: u12 :: (Value.int .i64 (i : Nat)) :: u14 :: u15 :: u16 :: u17 :: u18 :: u19 :: u20 :: u21 :: u22 :: u23 :: u24 :: u25 :: u26 :: u27 :: u28 :: u29 :: u30 :: u31 :: u32 :: u33 :: u34 :: u35 :: u36 :: u37 :: u38 :: u39 :: u40 :: u41 :: u42 :: u43 :: u44 :: u45 :: u46 :: u47 :: u48 :: u49 :: u50 :: u51 :: u52 :: u53 :: u54 :: u55 :: u56 :: u57 :: u58 :: u59 :: u60 :: u61 :: u62 :: u63 :: u64 :: u65 :: u66 :: u67 :: u68 :: u69 :: u70 :: u71 :: u72 :: u73 :: u74 :: u75 :: u76 :: u77 :: u78 :: u79 :: u80 :: u81 :: u82 :: u83 :: u84 :: u85 :: u86 :: u87 :: u88 :: u89 :: u90 :: u91 :: u92 :: u93 :: u94 :: u95 :: u96 :: u97 :: u98 :: u99 :: u100 :: u101 :: u102 :: u103 :: u104 :: u105 :: u106 :: u107 :: u108 :: u109 :: u110 :: u111 :: u112 :: u113 :: u114 :: u115 :: u116 :: u117 :: u118 :: u119 :: u120 :: u121 :: u122 :: u123 :: u124 :: u125 :: y126 :: y127 :: y128 :: y129 :: y130 :: y131 :: y132 :: y133 :: y134 :: y135 :: y136 :: y137 :: y138 :: y139 :: y140 :: y141 :: y142 :: y143 :: y144 :: y145 :: y146 :: y147 :: y148 :: y149 :: y150 :: y151 :: y152 :: y153 :: y154 :: y155 :: y156 :: y157 :: y158 :: y159 :: (Value.bool false) :: u161 :: []).toArray, []⟩ (W.drewN m)) :
    Code.wp Tryd.prog kReg21 Q ⟨(u0 :: u1 :: u2 :: u3 :: u4 :: (Value.slice (some ⟨g, 0, none⟩) N c) :: u6 :: u7 :: u8 :: (Value.slice A NA cA) :: u10 :: (Value.slice B NB cB) :: u12 :: (Value.int .i64 (i : Nat)) :: u14 :: u15 :: u16 :: u17 :: u18 :: u19 :: u20 :: u21 :: u22 :: u23 :: u24 :: u25 :: u26 :: u27 :: u28 :: u29 :: u30 :: u31 :: u32 :: u33 :: u34 :: u35 :: u36 :: u37 :: u38 :: u39 :: u40 :: u41 :: u42 :: u43 :: u44 :: u45 :: u46 :: u47 :: u48 :: u49 :: u50 :: u51 :: u52 :: u53 :: u54 :: u55 :: u56 :: u57 :: u58 :: u59 :: u60 :: u61 :: u62 :: u63 :: u64 :: u65 :: u66 :: u67 :: u68 :: u69 :: u70 :: u71 :: u72 :: u73 :: u74 :: u75 :: u76 :: u77 :: u78 :: u79 :: u80 :: u81 :: u82 :: u83 :: u84 :: u85 :: u86 :: u87 :: u88 :: u89 :: u90 :: u91 :: u92 :: u93 :: u94 :: u95 :: u96 :: u97 :: u98 :: u99 :: u100 :: u101 :: u102 :: u103 :: u104 :: u105 :: u106 :: u107 :: u108 :: u109 :: u110 :: u111 :: u112 :: u113 :: u114 :: u115 :: u116 :: u117 :: u118 :: u119 :: u120 :: u121 :: u122 :: u123 :: u124 :: u125 :: u126 :: u127 :: u128 :: u129 :: u130 :: u131 :: u132 :: u133 :: u134 :: u135 :: u136 :: u137 :: u138 :: u139 :: u140 :: u141 :: u142 :: u143 :: u144 :: u145 :: u146 :: u147 :: u148 :: u149 :: u150 :: u151 :: u152 :: u153 :: u154 :: u155 :: u156 :: u157 :: u158 :: u159 :: u160 :: u161 :: []).toArray, []⟩ W := by
  conv => arg 2; whnf
  refine wp_onlyN ?_
  have HQ := Lib.hid hQ
  clear hQ
  have p0 : (0 : Int) ≤ (i : Int) := by omega
  have p1 : (i : Int) < (N : Int) := by omega
  rcases hc with ⟨h1, ga, rfl, b0, b1, b2, b3, b4, b5⟩ | ⟨j, rfl, h2, gb, rfl, b0, b1, b2, b3, b4, b5⟩
  · have q1 : (i : Int) < (NA : Int) := by omega
    have q2 : ¬ ((NA : Int) ≤ (i : Int)) := by omega
    have q3 : decide (NA ≤ i) = false := decide_eq_false (by omega)
    clear h1 hi
    go_quiet (fail)
    exact HQ.out _ _ _ _ _ _ _ _ _ _ _ _ _ _ _ _ _ _ _ _ _ _ _ _ _ _ _ _ _ _ _ _ _ _ _
  · have q1 : ¬ ((NA : Int) + (j : Int) < (NA : Int)) := by omega
    have q4 : decide (NA + j < NA) = false := decide_eq_false (by omega)
    have q2 : (NA : Int) ≤ (NA : Int) + (j : Int) := by omega
    have q5 : (0 : Int) ≤ (j : Int) := by omega
    have q6 : (j : Int) < (NB : Int) := by omega
    have q7 : IntKind.i64.wrap ((NA : Int) + (j : Int) - (NA : Int)) = (j : Nat) := (IntWalk.i64_in _ (by omega)).trans (by omega)
    have q8 : (0 : Int) ≤ (NA : Int) + (j : Int) := by omega
    have q9 : (NA : Int) + (j : Int) < (N : Int) := by omega
    clear h2 hi
    go_quiet (fail)
    exact HQ.out _ _ _ _ _ _ _ _ _ _ _ _ _ _ _ _ _ _ _ _ _ _ _ _ _ _ _ _ _ _ _ _ _ _ _
end Go.Proofs.YtmeipmkiknekjaaDoor
