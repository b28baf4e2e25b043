/- The great regions of ShwordTile. -/
import Derived.Test.YtmeipmkiknekjaaDoorHLawA
namespace Go.Proofs.YtmeipmkiknekjaaDoor
open Go.RowKit
set_option linter.unusedVariables false

noncomputable def tReg13 : Code := ((Tryd.f5.body.bind (cReg 13)).getD .skip)
noncomputable def tReg16 : Code := ((Tryd.f5.body.bind (cReg 16)).getD .skip)
noncomputable def tReg18 : Code := ((Tryd.f5.body.bind (cReg 18)).getD .skip)
noncomputable def tReg21 : Code := ((Tryd.f5.body.bind (cReg 21)).getD .skip)
variable {u0 u1 u2 u3 u4 u5 u6 u7 u8 u9 u10 u11 u12 u13 u14 u15 u16 u17 u18 u19 u20 u21 u22 u23 u24 u25 u26 u27 u28 u29 u30 u31 u32 u33 u34 u35 u36 u37 u38 u39 u40 u41 u42 u43 u44 u45 u46 u47 u48 u49 u50 u51 u52 u53 u54 u55 u56 u57 u58 u59 u60 u61 u62 u63 u64 u65 u66 u67 u68 u69 u70 u71 u72 u73 u74 u75 u76 u77 u78 u79 u80 u81 u82 u83 u84 u85 u86 u87 u88 u89 u90 u91 u92 u93 u94 u95 u96 u97 u98 u99 u100 u101 u102 u103 u104 u105 u106 u107 u108 u109 u110 u111 u112 u113 u114 u115 u116 u117 u118 u119 u120 u121 u122 u123 u124 u125 u126 u127 u128 u129 u130 u131 u132 u133 u134 u135 u136 u137 u138 u139 u140 u141 u142 u143 u144 u145 u146 u147 u148 u149 u150 u151 u152 u153 u154 u155 u156 u157 u158 u159 u160 u161 u162 u163 u164 u165 u166 u167 u168 u169 u170 u171 u172 u173 u174 u175 u176 u177 u178 u179 u180 u181 u182 u183 u184 u185 u186 u187 u188 u189 u190 u191 u192 u193 u194 u195 u196 u197 u198 u199 u200 u201 u202 u203 u204 u205 u206 u207 u208 u209 u210 : Value}
set_option maxRecDepth 1000000 in
set_option maxHeartbeats 16000000 in
theorem tile13 {W : World} {line : ByteArray} {q m i g xa xb : Nat} (d1 : W.cell? ⟨g, 1, none⟩ = some (.int .i64 (xa : Nat))) (d2 : W.cell? ⟨g, 2, none⟩ = some (.int .i64 (xb : Nat)))
    (t1 : q ≤ xa) (t2 : xa ≤ xb) (t3 : xb ≤ line.size) (HB : ∀ w, Calls Tryd.prog 14 #[.string (line.extract q xa)] w fun e w' => e = .returned (.bool true) ∧ w = w')
    (hE : (((xa : Int) == (xb : Int)) = false) ∨ (((xa : Int) == (xb : Int)) = true ∧ decide (0 < i) = false ∧ ((m : Int) == 39) = true) ∨ (((xa : Int) == (xb : Int)) = true ∧ decide (0 < i) = false ∧ ((m : Int) == 39) = false ∧ ((m : Int) == 34) = true)) (Q : Exit → Act → World → Prop)
    (hQ : ∀ (y64 y65 y66 y67 y68 y69 y70 y71 y72 y73 y74 y75 y76 y77 y78 y79 y80 y81 y82 y83 y84 y85 y86 y87 y88 y89 y90 y91 y92 y93 y94 y95 y96 y97 y98 y99 y100 y101 y102 y103 y104 y105 y106 y107 y108 : Value), Q .normal ⟨((Value.string line) :: (Value.int .i64 (q : Nat)) :: (Value.int .u8 (m : Nat)) :: u3 :: u4 :: u5 :: u6 :: u7 :: u8 :: u9 :: (Value.int .i64 (i : Nat)) :: (Value.pointer (some ⟨g, 0, none⟩)) :: u12 :: u13 :: u14 :: u15 :: u16 :: u17 :: u18 :: u19 :: u20 :: u21 :: u22 :: u23 :: u24 :: u25 :: u26 :: u27 :: u28 :: u29 :: u30 :: u31 :: u32 :: u33 :: u34 :: u35 :: u36 :: u37 :: u38 :: u39 :: u40 :: u41 :: u42 :: u43 :: u44 :: u45 :: u46 :: u47 :: u48 :: u49 :: u50 :: u51 :: u52 :: u53 :: u54 :: u55 :: u56 :: u57 :: u58 :: u59 :: u60 :: u61 :: u62 :: u63 :: y64 :: y65 :: y66 :: y67 :: y68 :: y69 :: y70 :: y71 :: y72 :: y73 :: y74 :: y75 :: y76 :: y77 :: y78 :: y79 :: y80 :: y81 :: y82 :: y83 :: y84 :: y85 :: y86 :: y87 :: y88 :: y89 :: y90 :: y91 :: y92 :: y93 :: y94 :: y95 :: y96 :: y97 :: y98 :: y99 :: y100 :: y101 :: y102 :: y103 :: y104 :: y105 :: y106 :: y107 :: y108 :: (Value.bool false) :: u110 :: u111 :: u112 :: u113 :: u114 :: u115 :: u116 :: u117 :: u118 :: u119 :: u120 :: u121 :: u122 :: u123 :: u124 :: u125 :: u126 :: u127 :: u128 :: u129 :: u130 :: u131 :: u132 :: u133 :: u134 :: u135 :: u136 :: u137 :: u138 :: u139 :: u140 :: u141 :: u142 :: u143 :: u144 :: u145 :: u146 :: u147 :: u148 :: u149 :: u150 :: u151 :: u152 :: u153 :: u154 :: u155 :: u156 :: u157 :: u158 :: u159 :: u160 :: u161 :: u162 :: u163 :: u164 :: u165 :: u166 :: u167 :: u168 :: u169 :: u170 :: u171 :: u172 :: u173 :: u174 :: u175 :: u176 :: u177 :: u178 :: u179 :: u180 :: u181 :: u182 :: u183 :: u184 :: u185 :: u186 :: u187 :: u188 :: u189 :: u190 :: u191 :: u192 :: u193 :: u194 :: u195 :: u196 :: u197 :: u198 :: u199 :: u200 :: u201 :: u202 :: u203 :: u204 :: u205 :: u206 :: u207 :: u208 :: u209 :: u210 :: []).toArray, []⟩ W) :
    Code.wp Tryd.prog tReg13 Q ⟨((Value.string line) :: (Value.int .i64 (q : Nat)) :: (Value.int .u8 (m : Nat)) :: u3 :: u4 :: u5 :: u6 :: u7 :: u8 :: u9 :: (Value.int .i64 (i : Nat)) :: (Value.pointer (some ⟨g, 0, none⟩)) :: u12 :: u13 :: u14 :: u15 :: u16 :: u17 :: u18 :: u19 :: u20 :: u21 :: u22 :: u23 :: u24 :: u25 :: u26 :: u27 :: u28 :: u29 :: u30 :: u31 :: u32 :: u33 :: u34 :: u35 :: u36 :: u37 :: u38 :: u39 :: u40 :: u41 :: u42 :: u43 :: u44 :: u45 :: u46 :: u47 :: u48 :: u49 :: u50 :: u51 :: u52 :: u53 :: u54 :: u55 :: u56 :: u57 :: u58 :: u59 :: u60 :: u61 :: u62 :: u63 :: u64 :: u65 :: u66 :: u67 :: u68 :: u69 :: u70 :: u71 :: u72 :: u73 :: u74 :: u75 :: u76 :: u77 :: u78 :: u79 :: u80 :: u81 :: u82 :: u83 :: u84 :: u85 :: u86 :: u87 :: u88 :: u89 :: u90 :: u91 :: u92 :: u93 :: u94 :: u95 :: u96 :: u97 :: u98 :: u99 :: u100 :: u101 :: u102 :: u103 :: u104 :: u105 :: u106 :: u107 :: u108 :: u109 :: u110 :: u111 :: u112 :: u113 :: u114 :: u115 :: u116 :: u117 :: u118 :: u119 :: u120 :: u121 :: u122 :: u123 :: u124 :: u125 :: u126 :: u127 :: u128 :: u129 :: u130 :: u131 :: u132 :: u133 :: u134 :: u135 :: u136 :: u137 :: u138 :: u139 :: u140 :: u141 :: u142 :: u143 :: u144 :: u145 :: u146 :: u147 :: u148 :: u149 :: u150 :: u151 :: u152 :: u153 :: u154 :: u155 :: u156 :: u157 :: u158 :: u159 :: u160 :: u161 :: u162 :: u163 :: u164 :: u165 :: u166 :: u167 :: u168 :: u169 :: u170 :: u171 :: u172 :: u173 :: u174 :: u175 :: u176 :: u177 :: u178 :: u179 :: u180 :: u181 :: u182 :: u183 :: u184 :: u185 :: u186 :: u187 :: u188 :: u189 :: u190 :: u191 :: u192 :: u193 :: u194 :: u195 :: u196 :: u197 :: u198 :: u199 :: u200 :: u201 :: u202 :: u203 :: u204 :: u205 :: u206 :: u207 :: u208 :: u209 :: u210 :: []).toArray, []⟩ W := by
  conv => arg 2; whnf
  refine wp_onlyN ?_
  have HQ := Lib.hid hQ
  clear hQ
  have HBB := Lib.hid HB
  clear HB
  have a1 : ¬ ((xa : Int) < (q : Int)) := by omega
  have a2 : ¬ ((xb : Int) < (xa : Int)) := by omega
  have a3 : ¬ ((line.size : Int) < (xb : Int)) := by omega
  have a1d : decide (xa < q) = false := decide_eq_false (by omega)
  have a2d : decide (xb < xa) = false := decide_eq_false (by omega)
  have a3d : decide (line.size < xb) = false := decide_eq_false (by omega)
  have b0 : (0 : Int) ≤ (q : Int) := by omega
  have b1 : (q : Int) ≤ (xa : Int) := by omega
  have b2 : (xa : Int) ≤ line.size := by omega
  have b4 : xa ≤ line.size := by omega
  rcases hE with h1 | ⟨h1, h2, h3⟩ | ⟨h1, h2, h3, h4⟩
  case' inr.inl => have h7 : decide ((0 : Int) < (i : Int)) = false := decide_eq_false (by have := of_decide_eq_false h2; omega)
  case' inr.inr => have h7 : decide ((0 : Int) < (i : Int)) = false := decide_eq_false (by have := of_decide_eq_false h2; omega)
  case' inr.inl => have h5 : ((m : Int) != 39) = false := by rw [bne, h3]; rfl
  case' inr.inr => have h5 : ((m : Int) != 39) = true := by rw [bne, h3]; rfl
  case' inr.inr => have h6 : ((m : Int) != 34) = false := by rw [bne, h4]; rfl
  all_goals
    go_wp2_with (first
      | (go_at_call 14; ((with_reducible refine (HBB.out _).mono ?_); rintro e w4 ⟨rfl, rfl⟩)))
    exact HQ.out _ _ _ _ _ _ _ _ _ _ _ _ _ _ _ _ _ _ _ _ _ _ _ _ _ _ _ _ _ _ _ _ _ _ _ _ _ _ _ _ _ _ _ _ _
set_option maxRecDepth 1000000 in
set_option maxHeartbeats 16000000 in
theorem tile16 {W : World} {g xa xb : Nat} {X : ByteArray} {rw1 wh B : Bool} (d1 : W.cell? ⟨g, 1, none⟩ = some (.int .i64 (xa : Nat))) (d2 : W.cell? ⟨g, 2, none⟩ = some (.int .i64 (xb : Nat))) (d3 : W.cell? ⟨g, 3, none⟩ = some (.string X)) (d4 : W.cell? ⟨g, 4, none⟩ = some (.bool rw1)) (d5 : W.cell? ⟨g, 5, none⟩ = some (.bool wh))
    (t2 : xa ≤ xb) (t3 : xb ≤ 1000000) (t7 : X.size ≤ xb - xa) (hK : B = true ∨ (B = false ∧ X = ⟨#[]⟩ ∧ rw1 = false ∧ wh = false)) (Q : Exit → Act → World → Prop)
    (hQ : ∀ (y113 y114 y115 y116 y117 y118 y119 y120 y121 y122 y123 y124 y125 y126 y127 y128 y129 y130 y131 y132 y133 y134 y135 y136 y137 : Value), Q .normal ⟨(u0 :: u1 :: u2 :: u3 :: u4 :: u5 :: u6 :: u7 :: u8 :: u9 :: u10 :: (Value.pointer (some ⟨g, 0, none⟩)) :: (Value.bool B) :: u13 :: u14 :: u15 :: u16 :: u17 :: u18 :: u19 :: u20 :: u21 :: u22 :: u23 :: u24 :: u25 :: u26 :: u27 :: u28 :: u29 :: u30 :: u31 :: u32 :: u33 :: u34 :: u35 :: u36 :: u37 :: u38 :: u39 :: u40 :: u41 :: u42 :: u43 :: u44 :: u45 :: u46 :: u47 :: u48 :: u49 :: u50 :: u51 :: u52 :: u53 :: u54 :: u55 :: u56 :: u57 :: u58 :: u59 :: u60 :: u61 :: u62 :: u63 :: u64 :: u65 :: u66 :: u67 :: u68 :: u69 :: u70 :: u71 :: u72 :: u73 :: u74 :: u75 :: u76 :: u77 :: u78 :: u79 :: u80 :: u81 :: u82 :: u83 :: u84 :: u85 :: u86 :: u87 :: u88 :: u89 :: u90 :: u91 :: u92 :: u93 :: u94 :: u95 :: u96 :: u97 :: u98 :: u99 :: u100 :: u101 :: u102 :: u103 :: u104 :: u105 :: u106 :: u107 :: u108 :: u109 :: u110 :: u111 :: u112 :: y113 :: y114 :: y115 :: y116 :: y117 :: y118 :: y119 :: y120 :: y121 :: y122 :: y123 :: y124 :: y125 :: y126 :: y127 :: y128 :: y129 :: y130 :: y131 :: y132 :: y133 :: y134 :: y135 :: y136 :: y137 :: (Value.bool false) :: u139 :: u140 :: u141 :: u142 :: u143 :: u144 :: u145 :: u146 :: u147 :: u148 :: u149 :: u150 :: u151 :: u152 :: u153 :: u154 :: u155 :: u156 :: u157 :: u158 :: u159 :: u160 :: u161 :: u162 :: u163 :: u164 :: u165 :: u166 :: u167 :: u168 :: u169 :: u170 :: u171 :: u172 :: u173 :: u174 :: u175 :: u176 :: u177 :: u178 :: u179 :: u180 :: u181 :: u182 :: u183 :: u184 :: u185 :: u186 :: u187 :: u188 :: u189 :: u190 :: u191 :: u192 :: u193 :: u194 :: u195 :: u196 :: u197 :: u198 :: u199 :: u200 :: u201 :: u202 :: u203 :: u204 :: u205 :: u206 :: u207 :: u208 :: u209 :: u210 :: []).toArray, []⟩ W) :
    Code.wp Tryd.prog tReg16 Q ⟨(u0 :: u1 :: u2 :: u3 :: u4 :: u5 :: u6 :: u7 :: u8 :: u9 :: u10 :: (Value.pointer (some ⟨g, 0, none⟩)) :: (Value.bool B) :: u13 :: u14 :: u15 :: u16 :: u17 :: u18 :: u19 :: u20 :: u21 :: u22 :: u23 :: u24 :: u25 :: u26 :: u27 :: u28 :: u29 :: u30 :: u31 :: u32 :: u33 :: u34 :: u35 :: u36 :: u37 :: u38 :: u39 :: u40 :: u41 :: u42 :: u43 :: u44 :: u45 :: u46 :: u47 :: u48 :: u49 :: u50 :: u51 :: u52 :: u53 :: u54 :: u55 :: u56 :: u57 :: u58 :: u59 :: u60 :: u61 :: u62 :: u63 :: u64 :: u65 :: u66 :: u67 :: u68 :: u69 :: u70 :: u71 :: u72 :: u73 :: u74 :: u75 :: u76 :: u77 :: u78 :: u79 :: u80 :: u81 :: u82 :: u83 :: u84 :: u85 :: u86 :: u87 :: u88 :: u89 :: u90 :: u91 :: u92 :: u93 :: u94 :: u95 :: u96 :: u97 :: u98 :: u99 :: u100 :: u101 :: u102 :: u103 :: u104 :: u105 :: u106 :: u107 :: u108 :: u109 :: u110 :: u111 :: u112 :: u113 :: u114 :: u115 :: u116 :: u117 :: u118 :: u119 :: u120 :: u121 :: u122 :: u123 :: u124 :: u125 :: u126 :: u127 :: u128 :: u129 :: u130 :: u131 :: u132 :: u133 :: u134 :: u135 :: u136 :: u137 :: u138 :: u139 :: u140 :: u141 :: u142 :: u143 :: u144 :: u145 :: u146 :: u147 :: u148 :: u149 :: u150 :: u151 :: u152 :: u153 :: u154 :: u155 :: u156 :: u157 :: u158 :: u159 :: u160 :: u161 :: u162 :: u163 :: u164 :: u165 :: u166 :: u167 :: u168 :: u169 :: u170 :: u171 :: u172 :: u173 :: u174 :: u175 :: u176 :: u177 :: u178 :: u179 :: u180 :: u181 :: u182 :: u183 :: u184 :: u185 :: u186 :: u187 :: u188 :: u189 :: u190 :: u191 :: u192 :: u193 :: u194 :: u195 :: u196 :: u197 :: u198 :: u199 :: u200 :: u201 :: u202 :: u203 :: u204 :: u205 :: u206 :: u207 :: u208 :: u209 :: u210 :: []).toArray, []⟩ W := by
  conv => arg 2; whnf
  refine wp_onlyN ?_
  have HQ := Lib.hid hQ
  clear hQ
  have a4 : IntKind.i64.wrap ((xb : Int) - (xa : Int)) = (xb : Int) - (xa : Int) := IntWalk.i64_in _ (by omega)
  rcases hK with rfl | ⟨rfl, rfl, rfl, rfl⟩
  · have a5 : ¬ ((xb : Int) - (xa : Int) < (X.size : Int)) := by omega
    have a6 : decide ((xb : Int) - (xa : Int) < (X.size : Int)) = false := decide_eq_false a5
    clear t7
    go_wp2
    exact HQ.out _ _ _ _ _ _ _ _ _ _ _ _ _ _ _ _ _ _ _ _ _ _ _ _ _
  · have a5 : ¬ ((xb : Int) - (xa : Int) < 0) := by omega
    have a6 : decide ((xb : Int) - (xa : Int) < 0) = false := decide_eq_false a5
    clear t7
    go_wp2
    exact HQ.out _ _ _ _ _ _ _ _ _ _ _ _ _ _ _ _ _ _ _ _ _ _ _ _ _
set_option maxRecDepth 1000000 in
set_option maxHeartbeats 16000000 in
theorem tile18 {W : World} {A : Option Addr} {N c M n i g kd xb : Nat} {B : Bool} (d0 : W.cell? ⟨g, 0, none⟩ = some (.int .u8 (kd : Nat))) (d2 : W.cell? ⟨g, 2, none⟩ = some (.int .i64 (xb : Nat))) (hN : N ≤ 1000000) (hN0 : 0 < N)
    (hF : xb ≤ n ∨ (n < xb ∧ i + 1 = N ∧ (kd = 54 ∨ (kd ≠ 54 ∧ B = true ∧ M ≠ 0)))) (Q : Exit → Act → World → Prop)
    (hQ : ∀ (y139 y140 y141 y142 y143 y144 y145 y146 y147 y148 y149 y150 y151 y152 y153 y154 y155 y156 y157 y158 y159 y160 y161 : Value), Q .normal ⟨(u0 :: u1 :: u2 :: u3 :: u4 :: u5 :: u6 :: (Value.slice A N c) :: (Value.int .u8 (M : Nat)) :: (Value.int .i64 (n : Nat)) :: (Value.int .i64 (i : Nat)) :: (Value.pointer (some ⟨g, 0, none⟩)) :: (Value.bool B) :: u13 :: u14 :: u15 :: u16 :: u17 :: u18 :: u19 :: u20 :: u21 :: u22 :: u23 :: u24 :: u25 :: u26 :: u27 :: u28 :: u29 :: u30 :: u31 :: u32 :: u33 :: u34 :: u35 :: u36 :: u37 :: u38 :: u39 :: u40 :: u41 :: u42 :: u43 :: u44 :: u45 :: u46 :: u47 :: u48 :: u49 :: u50 :: u51 :: u52 :: u53 :: u54 :: u55 :: u56 :: u57 :: u58 :: u59 :: u60 :: u61 :: u62 :: u63 :: u64 :: u65 :: u66 :: u67 :: u68 :: u69 :: u70 :: u71 :: u72 :: u73 :: u74 :: u75 :: u76 :: u77 :: u78 :: u79 :: u80 :: u81 :: u82 :: u83 :: u84 :: u85 :: u86 :: u87 :: u88 :: u89 :: u90 :: u91 :: u92 :: u93 :: u94 :: u95 :: u96 :: u97 :: u98 :: u99 :: u100 :: u101 :: u102 :: u103 :: u104 :: u105 :: u106 :: u107 :: u108 :: u109 :: u110 :: u111 :: u112 :: u113 :: u114 :: u115 :: u116 :: u117 :: u118 :: u119 :: u120 :: u121 :: u122 :: u123 :: u124 :: u125 :: u126 :: u127 :: u128 :: u129 :: u130 :: u131 :: u132 :: u133 :: u134 :: u135 :: u136 :: u137 :: u138 :: y139 :: y140 :: y141 :: y142 :: y143 :: y144 :: y145 :: y146 :: y147 :: y148 :: y149 :: y150 :: y151 :: y152 :: y153 :: y154 :: y155 :: y156 :: y157 :: y158 :: y159 :: y160 :: y161 :: (Value.bool false) :: u163 :: u164 :: u165 :: u166 :: u167 :: u168 :: u169 :: u170 :: u171 :: u172 :: u173 :: u174 :: u175 :: u176 :: u177 :: u178 :: u179 :: u180 :: u181 :: u182 :: u183 :: u184 :: u185 :: u186 :: u187 :: u188 :: u189 :: u190 :: u191 :: u192 :: u193 :: u194 :: u195 :: u196 :: u197 :: u198 :: u199 :: u200 :: u201 :: u202 :: u203 :: u204 :: u205 :: u206 :: u207 :: u208 :: u209 :: u210 :: []).toArray, []⟩ W) :
    Code.wp Tryd.prog tReg18 Q ⟨(u0 :: u1 :: u2 :: u3 :: u4 :: u5 :: u6 :: (Value.slice A N c) :: (Value.int .u8 (M : Nat)) :: (Value.int .i64 (n : Nat)) :: (Value.int .i64 (i : Nat)) :: (Value.pointer (some ⟨g, 0, none⟩)) :: (Value.bool B) :: u13 :: u14 :: u15 :: u16 :: u17 :: u18 :: u19 :: u20 :: u21 :: u22 :: u23 :: u24 :: u25 :: u26 :: u27 :: u28 :: u29 :: u30 :: u31 :: u32 :: u33 :: u34 :: u35 :: u36 :: u37 :: u38 :: u39 :: u40 :: u41 :: u42 :: u43 :: u44 :: u45 :: u46 :: u47 :: u48 :: u49 :: u50 :: u51 :: u52 :: u53 :: u54 :: u55 :: u56 :: u57 :: u58 :: u59 :: u60 :: u61 :: u62 :: u63 :: u64 :: u65 :: u66 :: u67 :: u68 :: u69 :: u70 :: u71 :: u72 :: u73 :: u74 :: u75 :: u76 :: u77 :: u78 :: u79 :: u80 :: u81 :: u82 :: u83 :: u84 :: u85 :: u86 :: u87 :: u88 :: u89 :: u90 :: u91 :: u92 :: u93 :: u94 :: u95 :: u96 :: u97 :: u98 :: u99 :: u100 :: u101 :: u102 :: u103 :: u104 :: u105 :: u106 :: u107 :: u108 :: u109 :: u110 :: u111 :: u112 :: u113 :: u114 :: u115 :: u116 :: u117 :: u118 :: u119 :: u120 :: u121 :: u122 :: u123 :: u124 :: u125 :: u126 :: u127 :: u128 :: u129 :: u130 :: u131 :: u132 :: u133 :: u134 :: u135 :: u136 :: u137 :: u138 :: u139 :: u140 :: u141 :: u142 :: u143 :: u144 :: u145 :: u146 :: u147 :: u148 :: u149 :: u150 :: u151 :: u152 :: u153 :: u154 :: u155 :: u156 :: u157 :: u158 :: u159 :: u160 :: u161 :: u162 :: u163 :: u164 :: u165 :: u166 :: u167 :: u168 :: u169 :: u170 :: u171 :: u172 :: u173 :: u174 :: u175 :: u176 :: u177 :: u178 :: u179 :: u180 :: u181 :: u182 :: u183 :: u184 :: u185 :: u186 :: u187 :: u188 :: u189 :: u190 :: u191 :: u192 :: u193 :: u194 :: u195 :: u196 :: u197 :: u198 :: u199 :: u200 :: u201 :: u202 :: u203 :: u204 :: u205 :: u206 :: u207 :: u208 :: u209 :: u210 :: []).toArray, []⟩ W := by
  conv => arg 2; whnf
  refine wp_onlyN ?_
  have HQ := Lib.hid hQ
  clear hQ
  have a7 : IntKind.i64.wrap ((N : Int) - 1) = (N : Int) - 1 := IntWalk.i64_in _ (by omega)
  rcases hF with h | ⟨h, h1, h2 | ⟨h2, rfl, h3⟩⟩
  · have f1 : ¬ ((n : Int) < (xb : Int)) := by omega
    have f2 : decide (n < xb) = false := decide_eq_false (by omega)
    go_wp2
    exact HQ.out _ _ _ _ _ _ _ _ _ _ _ _ _ _ _ _ _ _ _ _ _ _ _
  · have f1 : (n : Int) < (xb : Int) := by omega
    have f3 : ((i : Int) == (N : Int) - 1) = true := beq_iff_eq.2 (by omega)
    have f4 : ((kd : Int) == 54) = true := beq_iff_eq.2 (by omega)
    clear h2 h1
    go_wp2
    exact HQ.out _ _ _ _ _ _ _ _ _ _ _ _ _ _ _ _ _ _ _ _ _ _ _
  · have f1 : (n : Int) < (xb : Int) := by omega
    have f3 : ((i : Int) == (N : Int) - 1) = true := beq_iff_eq.2 (by omega)
    have f4 : ((kd : Int) == 54) = false := beq_eq_false_iff_ne.2 (by omega)
    have f5 : ((M : Int) == 0) = false := beq_eq_false_iff_ne.2 (by omega)
    have f6 : ((M : Int) != 0) = true := by rw [bne, f5]; rfl
    clear h2 h1 h3
    go_wp2
    exact HQ.out _ _ _ _ _ _ _ _ _ _ _ _ _ _ _ _ _ _ _ _ _ _ _
set_option maxRecDepth 1000000 in
set_option maxHeartbeats 16000000 in
theorem tile21 {W : World} {line : ByteArray} {A : Option Addr} {N c M : Nat} (hN : N ≤ 1000000) (hM : M = 0 ∨ ((M = 39 ∨ M = 34) ∧ ∃ g j, A = some ⟨g, 0, none⟩ ∧ N = j + 1 ∧ W.cell? ⟨g, j * 6 + 5, none⟩ = some (.bool false) ∧ W.cell? ⟨g, j * 6 + 2, none⟩ = some (.int .i64 (line.size : Nat)))) (Q : Exit → Act → World → Prop)
    (hQ : ∀ (y165 y166 y167 y168 y169 y170 y171 y172 y173 y174 y175 y176 y177 y178 y179 y180 y181 y182 y183 y184 y185 y186 y187 y188 y189 y190 y191 y192 y193 y194 y195 y196 y197 y198 y199 : Value), Q .normal ⟨((Value.string line) :: u1 :: u2 :: u3 :: u4 :: u5 :: u6 :: (Value.slice A N c) :: (Value.int .u8 (M : Nat)) :: u9 :: u10 :: u11 :: u12 :: u13 :: u14 :: u15 :: u16 :: u17 :: u18 :: u19 :: u20 :: u21 :: u22 :: u23 :: u24 :: u25 :: u26 :: u27 :: u28 :: u29 :: u30 :: u31 :: u32 :: u33 :: u34 :: u35 :: u36 :: u37 :: u38 :: u39 :: u40 :: u41 :: u42 :: u43 :: u44 :: u45 :: u46 :: u47 :: u48 :: u49 :: u50 :: u51 :: u52 :: u53 :: u54 :: u55 :: u56 :: u57 :: u58 :: u59 :: u60 :: u61 :: u62 :: u63 :: u64 :: u65 :: u66 :: u67 :: u68 :: u69 :: u70 :: u71 :: u72 :: u73 :: u74 :: u75 :: u76 :: u77 :: u78 :: u79 :: u80 :: u81 :: u82 :: u83 :: u84 :: u85 :: u86 :: u87 :: u88 :: u89 :: u90 :: u91 :: u92 :: u93 :: u94 :: u95 :: u96 :: u97 :: u98 :: u99 :: u100 :: u101 :: u102 :: u103 :: u104 :: u105 :: u106 :: u107 :: u108 :: u109 :: u110 :: u111 :: u112 :: u113 :: u114 :: u115 :: u116 :: u117 :: u118 :: u119 :: u120 :: u121 :: u122 :: u123 :: u124 :: u125 :: u126 :: u127 :: u128 :: u129 :: u130 :: u131 :: u132 :: u133 :: u134 :: u135 :: u136 :: u137 :: u138 :: u139 :: u140 :: u141 :: u142 :: u143 :: u144 :: u145 :: u146 :: u147 :: u148 :: u149 :: u150 :: u151 :: u152 :: u153 :: u154 :: u155 :: u156 :: u157 :: u158 :: u159 :: u160 :: u161 :: u162 :: u163 :: u164 :: y165 :: y166 :: y167 :: y168 :: y169 :: y170 :: y171 :: y172 :: y173 :: y174 :: y175 :: y176 :: y177 :: y178 :: y179 :: y180 :: y181 :: y182 :: y183 :: y184 :: y185 :: y186 :: y187 :: y188 :: y189 :: y190 :: y191 :: y192 :: y193 :: y194 :: y195 :: y196 :: y197 :: y198 :: y199 :: (Value.bool false) :: u201 :: u202 :: u203 :: u204 :: u205 :: u206 :: u207 :: u208 :: u209 :: u210 :: []).toArray, []⟩ W) :
    Code.wp Tryd.prog tReg21 Q ⟨((Value.string line) :: u1 :: u2 :: u3 :: u4 :: u5 :: u6 :: (Value.slice A N c) :: (Value.int .u8 (M : Nat)) :: u9 :: u10 :: u11 :: u12 :: u13 :: u14 :: u15 :: u16 :: u17 :: u18 :: u19 :: u20 :: u21 :: u22 :: u23 :: u24 :: u25 :: u26 :: u27 :: u28 :: u29 :: u30 :: u31 :: u32 :: u33 :: u34 :: u35 :: u36 :: u37 :: u38 :: u39 :: u40 :: u41 :: u42 :: u43 :: u44 :: u45 :: u46 :: u47 :: u48 :: u49 :: u50 :: u51 :: u52 :: u53 :: u54 :: u55 :: u56 :: u57 :: u58 :: u59 :: u60 :: u61 :: u62 :: u63 :: u64 :: u65 :: u66 :: u67 :: u68 :: u69 :: u70 :: u71 :: u72 :: u73 :: u74 :: u75 :: u76 :: u77 :: u78 :: u79 :: u80 :: u81 :: u82 :: u83 :: u84 :: u85 :: u86 :: u87 :: u88 :: u89 :: u90 :: u91 :: u92 :: u93 :: u94 :: u95 :: u96 :: u97 :: u98 :: u99 :: u100 :: u101 :: u102 :: u103 :: u104 :: u105 :: u106 :: u107 :: u108 :: u109 :: u110 :: u111 :: u112 :: u113 :: u114 :: u115 :: u116 :: u117 :: u118 :: u119 :: u120 :: u121 :: u122 :: u123 :: u124 :: u125 :: u126 :: u127 :: u128 :: u129 :: u130 :: u131 :: u132 :: u133 :: u134 :: u135 :: u136 :: u137 :: u138 :: u139 :: u140 :: u141 :: u142 :: u143 :: u144 :: u145 :: u146 :: u147 :: u148 :: u149 :: u150 :: u151 :: u152 :: u153 :: u154 :: u155 :: u156 :: u157 :: u158 :: u159 :: u160 :: u161 :: u162 :: u163 :: u164 :: u165 :: u166 :: u167 :: u168 :: u169 :: u170 :: u171 :: u172 :: u173 :: u174 :: u175 :: u176 :: u177 :: u178 :: u179 :: u180 :: u181 :: u182 :: u183 :: u184 :: u185 :: u186 :: u187 :: u188 :: u189 :: u190 :: u191 :: u192 :: u193 :: u194 :: u195 :: u196 :: u197 :: u198 :: u199 :: u200 :: u201 :: u202 :: u203 :: u204 :: u205 :: u206 :: u207 :: u208 :: u209 :: u210 :: []).toArray, []⟩ W := by
  conv => arg 2; whnf
  refine wp_onlyN ?_
  have HQ := Lib.hid hQ
  clear hQ
  rcases hM with rfl | ⟨hm, g, j, rfl, rfl, e1, e2⟩
  · go_wp2
    exact HQ.out _ _ _ _ _ _ _ _ _ _ _ _ _ _ _ _ _ _ _ _ _ _ _ _ _ _ _ _ _ _ _ _ _ _ _
  · have a7 : IntKind.i64.wrap (((j + 1 : Nat) : Int) - 1) = (j : Nat) := (IntWalk.i64_in _ (by omega)).trans (by omega)
    have a8 : IntKind.i64.wrap ((j : Int) + 1 - 1) = (j : Nat) := (IntWalk.i64_in _ (by omega)).trans (by omega)
    have b0 : (0 : Int) ≤ (j : Int) := by omega
    have b1 : (j : Int) < (j : Int) + 1 := by omega
    have n0 : (((j : Int) + 1) == 0) = false := beq_eq_false_iff_ne.2 (by omega)
    have f5 : ((M : Int) == 0) = false := beq_eq_false_iff_ne.2 (by omega)
    have f6 : ((M : Int) != 0) = true := by rw [bne, f5]; rfl
    have hm2 : (((M : Int) == 39) = true) ∨ (((M : Int) == 39) = false ∧ ((M : Int) == 34) = true) := by
      rcases hm with h | h
      · exact .inl (beq_iff_eq.2 (by omega))
      · exact .inr ⟨beq_eq_false_iff_ne.2 (by omega), beq_iff_eq.2 (by omega)⟩
    clear hm
    rcases hm2 with h | ⟨h, h'⟩
    · have h3 : ((M : Int) != 39) = false := by rw [bne, h]; rfl
      go_wp2
      exact HQ.out _ _ _ _ _ _ _ _ _ _ _ _ _ _ _ _ _ _ _ _ _ _ _ _ _ _ _ _ _ _ _ _ _ _ _
    · have h3 : ((M : Int) != 39) = true := by rw [bne, h]; rfl
      have h4 : ((M : Int) != 34) = false := by rw [bne, h']; rfl
      go_wp2
      exact HQ.out _ _ _ _ _ _ _ _ _ _ _ _ _ _ _ _ _ _ _ _ _ _ _ _ _ _ _ _ _ _ _ _ _ _ _
end Go.Proofs.YtmeipmkiknekjaaDoor
