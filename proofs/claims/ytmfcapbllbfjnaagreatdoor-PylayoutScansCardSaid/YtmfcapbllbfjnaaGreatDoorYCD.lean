/- Cases of a round of the document's Scan: a text that begins. Cases of a round of the document's Scan: a text that goes on. -/
import Derived.Test.YtmfcapbllbfjnaaGreatDoorYCase
namespace Go.Proofs.YtmfcapbllbfjnaaGreatDoor
open Go.RowKit

set_option maxRecDepth 1000000 in
set_option maxHeartbeats 8000000 in
theorem case_begin0 (w0 W : World) (t : ByteArray) (p bo br : Nat) (v : Value) (es : List PEv) (st : PSt) (hp : p < t.size) (hs : (t.size : Int) ≤ 1000000) (c : Nat) (hc : bt t p = c) (hn : c ≠ 32 ∧ c ≠ 9 ∧ c ≠ 12 ∧ c ≠ 13 ∧ c ≠ 35 ∧ c ≠ 92) (hm : st.mark = 0) (r b : Nat) (hr : (begL ((bl t).drop p)).1 = r) (hr0 : r ≠ 0) (hb : begE p (begL ((bl t).drop p)) = b) (hbl : b ≤ t.size) (n : Nat) (hN : b + (clo (quo r) ((bl t).drop b)).1 = n) (hk : (clo (quo r) ((bl t).drop b)).2 = 0) (hl : es.length ≤ 1000000) (HO : Hid (OutAt w0 W bo br v es st)) (K : Act → World → Prop) (Q0 : Exit → Act → World → Prop)
    (hK : ∀ (a : Act) (W' : World) (v' : Value), Fr a t bo br (n) → OutAt w0 W' bo br v' (es ++ [⟨15, p, n⟩]) (⟨0, st.depth, st.j, true, false⟩) → K a W') (u0 u1 u2 u3 u4 u5 u6 u7 u12 u13 u14 u15 u16 u17 u18 u19 u20 u21 u22 u23 u24 u25 u26 u27 u28 u29 u30 u31 u32 u33 u34 u35 u36 u37 u38 u39 u40 u41 u42 u43 u44 u45 u46 u47 u48 u49 u50 u51 u52 u53 u54 u55 u56 u57 u58 u59 u60 u61 u62 u63 u64 u65 u66 u67 u68 u69 u70 u71 u72 u73 u74 u75 u76 u77 u78 u79 u80 u81 u82 u83 u84 u85 u86 u87 u88 u89 u90 u91 u92 u93 u94 u95 u96 u97 u98 u99 u100 u101 u102 u103 u104 u105 u106 u107 u108 u109 u110 u111 u112 u113 u114 u115 u116 u117 u118 u119 u120 u121 u122 u123 u124 u125 u126 u127 u128 u129 u130 u131 u132 u133 u134 u135 u136 u137 u138 u139 u140 u141 u142 u143 u144 u145 u146 u147 u148 u149 u150 u151 u152 u153 u154 u155 u156 u157 u158 u159 u160 u161 u162 u163 u164 u165 u166 u167 u168 u169 u170 u171 u172 u173 u174 u175 u176 u177 u178 u179 u180 u181 u182 u183 u184 u185 u186 u187 u188 u189 u190 u191 u192 u193 u194 u195 u196 u197 u198 u199 u200 u201 u202 u203 u204 u205 u206 u207 u208 u209 u210 u211 u212 u213 u214 u215 u216 u217 u218 u219 u220 u221 u222 u223 u224 u225 u226 u227 u228 u229 u230 u231 u232 u233 u234 u235 u236 u237 u238 u239 u240 u241 u242 u243 u244 u245 u246 u247 u248 u249 u250 u251 u252 u253 u254 u255 u256 u257 u258 u259 u260 u261 : Value) :
    Code.wp Tryz.prog scanBody (Exit.then K Q0) ⟨(u0 :: u1 :: u2 :: u3 :: u4 :: u5 :: u6 :: u7 :: (Value.pointer (some ⟨br, 0, none⟩)) :: (Value.string t) :: (Value.pointer (some ⟨bo, 0, none⟩)) :: (Value.int .i64 (p : Nat)) :: u12 :: u13 :: u14 :: u15 :: u16 :: u17 :: u18 :: u19 :: u20 :: u21 :: u22 :: u23 :: u24 :: u25 :: u26 :: u27 :: u28 :: u29 :: u30 :: u31 :: u32 :: u33 :: u34 :: u35 :: u36 :: u37 :: u38 :: u39 :: u40 :: u41 :: u42 :: u43 :: u44 :: u45 :: u46 :: u47 :: u48 :: u49 :: u50 :: u51 :: u52 :: u53 :: u54 :: u55 :: u56 :: u57 :: u58 :: u59 :: u60 :: u61 :: u62 :: u63 :: u64 :: u65 :: u66 :: u67 :: u68 :: u69 :: u70 :: u71 :: u72 :: u73 :: u74 :: u75 :: u76 :: u77 :: u78 :: u79 :: u80 :: u81 :: u82 :: u83 :: u84 :: u85 :: u86 :: u87 :: u88 :: u89 :: u90 :: u91 :: u92 :: u93 :: u94 :: u95 :: u96 :: u97 :: u98 :: u99 :: u100 :: u101 :: u102 :: u103 :: u104 :: u105 :: u106 :: u107 :: u108 :: u109 :: u110 :: u111 :: u112 :: u113 :: u114 :: u115 :: u116 :: u117 :: u118 :: u119 :: u120 :: u121 :: u122 :: u123 :: u124 :: u125 :: u126 :: u127 :: u128 :: u129 :: u130 :: u131 :: u132 :: u133 :: u134 :: u135 :: u136 :: u137 :: u138 :: u139 :: u140 :: u141 :: u142 :: u143 :: u144 :: u145 :: u146 :: u147 :: u148 :: u149 :: u150 :: u151 :: u152 :: u153 :: u154 :: u155 :: u156 :: u157 :: u158 :: u159 :: u160 :: u161 :: u162 :: u163 :: u164 :: u165 :: u166 :: u167 :: u168 :: u169 :: u170 :: u171 :: u172 :: u173 :: u174 :: u175 :: u176 :: u177 :: u178 :: u179 :: u180 :: u181 :: u182 :: u183 :: u184 :: u185 :: u186 :: u187 :: u188 :: u189 :: u190 :: u191 :: u192 :: u193 :: u194 :: u195 :: u196 :: u197 :: u198 :: u199 :: u200 :: u201 :: u202 :: u203 :: u204 :: u205 :: u206 :: u207 :: u208 :: u209 :: u210 :: u211 :: u212 :: u213 :: u214 :: u215 :: u216 :: u217 :: u218 :: u219 :: u220 :: u221 :: u222 :: u223 :: u224 :: u225 :: u226 :: u227 :: u228 :: u229 :: u230 :: u231 :: u232 :: u233 :: u234 :: u235 :: u236 :: u237 :: u238 :: u239 :: u240 :: u241 :: u242 :: u243 :: u244 :: u245 :: u246 :: u247 :: u248 :: u249 :: u250 :: u251 :: u252 :: u253 :: u254 :: u255 :: u256 :: u257 :: u258 :: u259 :: u260 :: u261 :: []).toArray, []⟩ W := by
  conv => arg 2; whnf
  have HB := Lib.hid (fun W' => begins_any t p W' hs (Nat.le_of_lt hp))
  obtain ⟨r1, hr1⟩ : ∃ r1, (begL ((bl t).drop p)).1 = r1 := ⟨_, rfl⟩
  obtain ⟨r2, hr2⟩ : ∃ r2, begE p (begL ((bl t).drop p)) = r2 := ⟨_, rfl⟩
  rw [hr1, hr2] at HB
  have HCl := Lib.hid (fun W => close_any t (quoB r) b W hs (by have := quoB_le r; omega) hbl)
  have HQ := Lib.hid (fun W => quotes_any r W)
  rw [quoB_bl, hN, hk] at HCl
  rw [show ((0 : Nat) : Int) = 0 from rfl] at HCl
  have hx : t[p].toNat = c := by rw [bt_eq hp]; exact hc
  obtain rfl : r = r1 := by rw [← hr1, hr]
  obtain rfl : b = r2 := by rw [← hr2, hb]
  have n32 : ((c : Int) == 32) = false := beq_eq_false_iff_ne.2 (by omega)
  have n9 : ((c : Int) == 9) = false := beq_eq_false_iff_ne.2 (by omega)
  have n12 : ((c : Int) == 12) = false := beq_eq_false_iff_ne.2 (by omega)
  have n13 : ((c : Int) == 13) = false := beq_eq_false_iff_ne.2 (by omega)
  have n35 : ((c : Int) == 35) = false := beq_eq_false_iff_ne.2 (by omega)
  have n92 : ((c : Int) == 92) = false := beq_eq_false_iff_ne.2 (by omega)
  have m32 : ¬ (c : Int) = 32 := by omega
  have m9 : ¬ (c : Int) = 9 := by omega
  have m12 : ¬ (c : Int) = 12 := by omega
  have m13 : ¬ (c : Int) = 13 := by omega
  have m35 : ¬ (c : Int) = 35 := by omega
  have m92 : ¬ (c : Int) = 92 := by omega
  have q32 : ((c : Int) != 32) = true := bne_iff_ne.2 (by omega)
  have q9 : ((c : Int) != 9) = true := bne_iff_ne.2 (by omega)
  have q12 : ((c : Int) != 12) = true := bne_iff_ne.2 (by omega)
  have q13 : ((c : Int) != 13) = true := bne_iff_ne.2 (by omega)
  have q35 : ((c : Int) != 35) = true := bne_iff_ne.2 (by omega)
  have q92 : ((c : Int) != 92) = true := bne_iff_ne.2 (by omega)
  have qr : ((r : Int) != 0) = true := bne_iff_ne.2 (by omega)
  have r0 : ((r : Int) == 0) = false := beq_eq_false_iff_ne.2 (by omega)
  have r0' : ¬ (r : Int) = 0 := by omega
  have p0 : (0 : Int) ≤ p := by omega
  have p1 : (p : Int) < t.size := by omega
  have e0 : IntKind.i64.wrap ((p : Int) + 1) = (p : Int) + 1 := IntWalk.i64_in _ (by omega)
  have HK := Lib.hid hK
  have HL := Lib.hid hl
  clear hr1 hr2 hs hK hl hN hk hc hn hr hr0 hb hbl
  go_wp2_with (first
    | (go_at_call 31; ((with_reducible refine (HB.out _).mono ?_); rintro e w1 ⟨rfl, hu⟩; have HO1 := Lib.hid (HO.out.more hu); have c1 := HO1.out.cell (k := 1) (show _ = some (.int .u8 (st.mark : Nat)) from rfl); have c0 := HO1.out.cell (k := 0) (show _ = some v from rfl); have z0 := HO1.out.fr 0; have z1 := HO1.out.fr 1; have z2 := HO1.out.fr 2; have z3 := HO1.out.fr 3; have c3 := HO1.out.cell (k := 3) (show _ = some (.bool st.j) from rfl); have z4 := HO1.out.fr 4; have c4 := HO1.out.cell (k := 4) (show _ = some (.bool st.s) from rfl); have z5 := HO1.out.fr 5; have c5 := HO1.out.cell (k := 5) (show _ = some (.bool st.c) from rfl); have c2 := HO1.out.cell (k := 2) (show _ = some (.int .i64 st.depth) from rfl); rw [hm, show ((0 : Nat) : Int) = 0 from rfl] at c1; clear hu))
    | (go_at_call 33; ((with_reducible refine (HQ.out _).mono ?_); rintro e w7 ⟨rfl, rfl⟩))
    | (go_at_call 32; ((with_reducible refine (HCl.out _).mono ?_); rintro e w7 ⟨rfl, rfl⟩))
    | (at_builtin; (have HO1 := Lib.hid (HO1.out.set (k := 1) (st' := ⟨r, st.depth, st.j, st.s, st.c⟩) (u := .int .u8 (r : Nat)) rfl); have HO1 := Lib.hid (HO1.out.set (k := 1) (st' := ⟨0, st.depth, st.j, st.s, st.c⟩) (u := .int .u8 0) rfl); obtain ⟨i0, hi0, hz0, hz1, hz2⟩ := info_parts infoEvent; have ho := HO1.out.row; unfold RowE at ho; refine wpList_append_own _ rfl _ _ 30 rfl w0.heap.size 46 i0 (.agg #[.int .u8 0, .int .u8 0, .int .i64 0, .int .i64 0]) 4 24 Tryz.underlying30 hi0 hz0 hz1 hz2 rfl (by decide) _ _ _ rfl (ho.alloc _) _ 1 1 [.int .u8 3, .int .u8 15, .int .i64 (p : Nat), .int .i64 (n : Nat)] rfl rfl ?c1 ?c2 ?c3 ?c4 ?c5 ?_)))
  case c1 =>
    intro jj u hj
    match jj, hj with
    | 0, hj => simp at hj; subst hj; simp [Addr.add, go_sem]
    | 1, hj => simp at hj; subst hj; simp [Addr.add, go_sem]
    | 2, hj => simp at hj; subst hj; simp [Addr.add, go_sem]
    | 3, hj => simp at hj; subst hj; simp [Addr.add, go_sem]
  case c2 => intro u hu; simp at hu; rcases hu with rfl | rfl | rfl | rfl <;> rfl
  case c3 => have := HL.out; unfold maxLen; omega
  case c4 => have := HL.out; omega
  case c5 => have := Below.size HO1.out.up; rw [World.size_alloc]; omega
  intro v5 w5 hown5 hgrow5 _
  obtain ⟨A5, q5, rfl⟩ := own_slice hown5
  have hbx := HO1.out.mid hgrow5
  have x0 : w5.cell? ⟨bo, 0, none⟩ = some v := cellOf hbx rfl
  have y0 : w5.frozen? ⟨bo, 0, none⟩ = false := frozenOf hbx
  have x2 : w5.cell? ⟨bo, 2, none⟩ = some (.int .i64 (st.depth)) := cellOf hbx rfl
  have x4 : w5.cell? ⟨bo, 4, none⟩ = some (.bool st.s) := cellOf hbx rfl
  have y4 : w5.frozen? ⟨bo, 4, none⟩ = false := frozenOf hbx
  have x5 : w5.cell? ⟨bo, 5, none⟩ = some (.bool st.c) := cellOf hbx rfl
  have y5 : w5.frozen? ⟨bo, 5, none⟩ = false := frozenOf hbx
  have HO2 := Lib.hid (HO1.out.app hown5 hgrow5)
  clear hown5 hgrow5 hbx ho
  go_wp2
  exact HK.out _ _ _ ⟨rfl, rfl, rfl, rfl, rfl, rfl⟩ ((HO2.out.set (k := 4) (u := .bool true) (st' := ⟨0, st.depth, st.j, true, st.c⟩) rfl).set (k := 5) (u := .bool false) (st' := ⟨0, st.depth, st.j, true, false⟩) rfl)
set_option maxRecDepth 1000000 in
set_option maxHeartbeats 8000000 in
theorem case_begin1 (w0 W : World) (t : ByteArray) (p bo br : Nat) (v : Value) (es : List PEv) (st : PSt) (hp : p < t.size) (hs : (t.size : Int) ≤ 1000000) (c : Nat) (hc : bt t p = c) (hn : c ≠ 32 ∧ c ≠ 9 ∧ c ≠ 12 ∧ c ≠ 13 ∧ c ≠ 35 ∧ c ≠ 92) (hm : st.mark = 0) (r b : Nat) (hr : (begL ((bl t).drop p)).1 = r) (hr0 : r ≠ 0) (hb : begE p (begL ((bl t).drop p)) = b) (hbl : b ≤ t.size) (n k : Nat) (hN : b + (clo (quo r) ((bl t).drop b)).1 = n) (hk : (clo (quo r) ((bl t).drop b)).2 = k) (hk0 : k ≠ 0) (hm2 : r ≤ 2) (hl : es.length ≤ 1000000) (HO : Hid (OutAt w0 W bo br v es st)) (K : Act → World → Prop) (Q0 : Exit → Act → World → Prop)
    (hK : ∀ (a : Act) (W' : World) (v' : Value), Fr a t bo br (n) → OutAt w0 W' bo br v' (es ++ [⟨16, p, n⟩]) (⟨r, st.depth, st.j, true, false⟩) → K a W') (u0 u1 u2 u3 u4 u5 u6 u7 u12 u13 u14 u15 u16 u17 u18 u19 u20 u21 u22 u23 u24 u25 u26 u27 u28 u29 u30 u31 u32 u33 u34 u35 u36 u37 u38 u39 u40 u41 u42 u43 u44 u45 u46 u47 u48 u49 u50 u51 u52 u53 u54 u55 u56 u57 u58 u59 u60 u61 u62 u63 u64 u65 u66 u67 u68 u69 u70 u71 u72 u73 u74 u75 u76 u77 u78 u79 u80 u81 u82 u83 u84 u85 u86 u87 u88 u89 u90 u91 u92 u93 u94 u95 u96 u97 u98 u99 u100 u101 u102 u103 u104 u105 u106 u107 u108 u109 u110 u111 u112 u113 u114 u115 u116 u117 u118 u119 u120 u121 u122 u123 u124 u125 u126 u127 u128 u129 u130 u131 u132 u133 u134 u135 u136 u137 u138 u139 u140 u141 u142 u143 u144 u145 u146 u147 u148 u149 u150 u151 u152 u153 u154 u155 u156 u157 u158 u159 u160 u161 u162 u163 u164 u165 u166 u167 u168 u169 u170 u171 u172 u173 u174 u175 u176 u177 u178 u179 u180 u181 u182 u183 u184 u185 u186 u187 u188 u189 u190 u191 u192 u193 u194 u195 u196 u197 u198 u199 u200 u201 u202 u203 u204 u205 u206 u207 u208 u209 u210 u211 u212 u213 u214 u215 u216 u217 u218 u219 u220 u221 u222 u223 u224 u225 u226 u227 u228 u229 u230 u231 u232 u233 u234 u235 u236 u237 u238 u239 u240 u241 u242 u243 u244 u245 u246 u247 u248 u249 u250 u251 u252 u253 u254 u255 u256 u257 u258 u259 u260 u261 : Value) :
    Code.wp Tryz.prog scanBody (Exit.then K Q0) ⟨(u0 :: u1 :: u2 :: u3 :: u4 :: u5 :: u6 :: u7 :: (Value.pointer (some ⟨br, 0, none⟩)) :: (Value.string t) :: (Value.pointer (some ⟨bo, 0, none⟩)) :: (Value.int .i64 (p : Nat)) :: u12 :: u13 :: u14 :: u15 :: u16 :: u17 :: u18 :: u19 :: u20 :: u21 :: u22 :: u23 :: u24 :: u25 :: u26 :: u27 :: u28 :: u29 :: u30 :: u31 :: u32 :: u33 :: u34 :: u35 :: u36 :: u37 :: u38 :: u39 :: u40 :: u41 :: u42 :: u43 :: u44 :: u45 :: u46 :: u47 :: u48 :: u49 :: u50 :: u51 :: u52 :: u53 :: u54 :: u55 :: u56 :: u57 :: u58 :: u59 :: u60 :: u61 :: u62 :: u63 :: u64 :: u65 :: u66 :: u67 :: u68 :: u69 :: u70 :: u71 :: u72 :: u73 :: u74 :: u75 :: u76 :: u77 :: u78 :: u79 :: u80 :: u81 :: u82 :: u83 :: u84 :: u85 :: u86 :: u87 :: u88 :: u89 :: u90 :: u91 :: u92 :: u93 :: u94 :: u95 :: u96 :: u97 :: u98 :: u99 :: u100 :: u101 :: u102 :: u103 :: u104 :: u105 :: u106 :: u107 :: u108 :: u109 :: u110 :: u111 :: u112 :: u113 :: u114 :: u115 :: u116 :: u117 :: u118 :: u119 :: u120 :: u121 :: u122 :: u123 :: u124 :: u125 :: u126 :: u127 :: u128 :: u129 :: u130 :: u131 :: u132 :: u133 :: u134 :: u135 :: u136 :: u137 :: u138 :: u139 :: u140 :: u141 :: u142 :: u143 :: u144 :: u145 :: u146 :: u147 :: u148 :: u149 :: u150 :: u151 :: u152 :: u153 :: u154 :: u155 :: u156 :: u157 :: u158 :: u159 :: u160 :: u161 :: u162 :: u163 :: u164 :: u165 :: u166 :: u167 :: u168 :: u169 :: u170 :: u171 :: u172 :: u173 :: u174 :: u175 :: u176 :: u177 :: u178 :: u179 :: u180 :: u181 :: u182 :: u183 :: u184 :: u185 :: u186 :: u187 :: u188 :: u189 :: u190 :: u191 :: u192 :: u193 :: u194 :: u195 :: u196 :: u197 :: u198 :: u199 :: u200 :: u201 :: u202 :: u203 :: u204 :: u205 :: u206 :: u207 :: u208 :: u209 :: u210 :: u211 :: u212 :: u213 :: u214 :: u215 :: u216 :: u217 :: u218 :: u219 :: u220 :: u221 :: u222 :: u223 :: u224 :: u225 :: u226 :: u227 :: u228 :: u229 :: u230 :: u231 :: u232 :: u233 :: u234 :: u235 :: u236 :: u237 :: u238 :: u239 :: u240 :: u241 :: u242 :: u243 :: u244 :: u245 :: u246 :: u247 :: u248 :: u249 :: u250 :: u251 :: u252 :: u253 :: u254 :: u255 :: u256 :: u257 :: u258 :: u259 :: u260 :: u261 :: []).toArray, []⟩ W := by
  conv => arg 2; whnf
  have HB := Lib.hid (fun W' => begins_any t p W' hs (Nat.le_of_lt hp))
  obtain ⟨r1, hr1⟩ : ∃ r1, (begL ((bl t).drop p)).1 = r1 := ⟨_, rfl⟩
  obtain ⟨r2, hr2⟩ : ∃ r2, begE p (begL ((bl t).drop p)) = r2 := ⟨_, rfl⟩
  rw [hr1, hr2] at HB
  have HCl := Lib.hid (fun W => close_any t (quoB r) b W hs (by have := quoB_le r; omega) hbl)
  have HQ := Lib.hid (fun W => quotes_any r W)
  rw [quoB_bl, hN, hk] at HCl
  have kz : ((k : Int) == 0) = false := beq_eq_false_iff_ne.2 (by omega)
  have kz' : ¬ (k : Int) = 0 := by omega
  have hx : t[p].toNat = c := by rw [bt_eq hp]; exact hc
  obtain rfl : r = r1 := by rw [← hr1, hr]
  obtain rfl : b = r2 := by rw [← hr2, hb]
  have n32 : ((c : Int) == 32) = false := beq_eq_false_iff_ne.2 (by omega)
  have n9 : ((c : Int) == 9) = false := beq_eq_false_iff_ne.2 (by omega)
  have n12 : ((c : Int) == 12) = false := beq_eq_false_iff_ne.2 (by omega)
  have n13 : ((c : Int) == 13) = false := beq_eq_false_iff_ne.2 (by omega)
  have n35 : ((c : Int) == 35) = false := beq_eq_false_iff_ne.2 (by omega)
  have n92 : ((c : Int) == 92) = false := beq_eq_false_iff_ne.2 (by omega)
  have m32 : ¬ (c : Int) = 32 := by omega
  have m9 : ¬ (c : Int) = 9 := by omega
  have m12 : ¬ (c : Int) = 12 := by omega
  have m13 : ¬ (c : Int) = 13 := by omega
  have m35 : ¬ (c : Int) = 35 := by omega
  have m92 : ¬ (c : Int) = 92 := by omega
  have q32 : ((c : Int) != 32) = true := bne_iff_ne.2 (by omega)
  have q9 : ((c : Int) != 9) = true := bne_iff_ne.2 (by omega)
  have q12 : ((c : Int) != 12) = true := bne_iff_ne.2 (by omega)
  have q13 : ((c : Int) != 13) = true := bne_iff_ne.2 (by omega)
  have q35 : ((c : Int) != 35) = true := bne_iff_ne.2 (by omega)
  have q92 : ((c : Int) != 92) = true := bne_iff_ne.2 (by omega)
  have qr : ((r : Int) != 0) = true := bne_iff_ne.2 (by omega)
  have r0 : ((r : Int) == 0) = false := beq_eq_false_iff_ne.2 (by omega)
  have r0' : ¬ (r : Int) = 0 := by omega
  have l2 : (r : Int) ≤ 2 := by omega
  have l2d : decide ((r : Int) ≤ 2) = true := decide_eq_true (by omega)
  have p0 : (0 : Int) ≤ p := by omega
  have p1 : (p : Int) < t.size := by omega
  have e0 : IntKind.i64.wrap ((p : Int) + 1) = (p : Int) + 1 := IntWalk.i64_in _ (by omega)
  have HK := Lib.hid hK
  have HL := Lib.hid hl
  clear hr1 hr2 hs hK hl hN hk hk0 hm2 hc hn hr hr0 hb hbl
  go_wp2_with (first
    | (go_at_call 31; ((with_reducible refine (HB.out _).mono ?_); rintro e w1 ⟨rfl, hu⟩; have HO1 := Lib.hid (HO.out.more hu); have c1 := HO1.out.cell (k := 1) (show _ = some (.int .u8 (st.mark : Nat)) from rfl); have c0 := HO1.out.cell (k := 0) (show _ = some v from rfl); have z0 := HO1.out.fr 0; have z1 := HO1.out.fr 1; have z2 := HO1.out.fr 2; have z3 := HO1.out.fr 3; have c3 := HO1.out.cell (k := 3) (show _ = some (.bool st.j) from rfl); have z4 := HO1.out.fr 4; have c4 := HO1.out.cell (k := 4) (show _ = some (.bool st.s) from rfl); have z5 := HO1.out.fr 5; have c5 := HO1.out.cell (k := 5) (show _ = some (.bool st.c) from rfl); have c2 := HO1.out.cell (k := 2) (show _ = some (.int .i64 st.depth) from rfl); rw [hm, show ((0 : Nat) : Int) = 0 from rfl] at c1; clear hu))
    | (go_at_call 33; ((with_reducible refine (HQ.out _).mono ?_); rintro e w7 ⟨rfl, rfl⟩))
    | (go_at_call 32; ((with_reducible refine (HCl.out _).mono ?_); rintro e w7 ⟨rfl, rfl⟩))
    | (at_builtin; (have HO1 := Lib.hid (HO1.out.set (k := 1) (st' := ⟨r, st.depth, st.j, st.s, st.c⟩) (u := .int .u8 (r : Nat)) rfl); obtain ⟨i0, hi0, hz0, hz1, hz2⟩ := info_parts infoEvent; have ho := HO1.out.row; unfold RowE at ho; refine wpList_append_own _ rfl _ _ 30 rfl w0.heap.size 46 i0 (.agg #[.int .u8 0, .int .u8 0, .int .i64 0, .int .i64 0]) 4 24 Tryz.underlying30 hi0 hz0 hz1 hz2 rfl (by decide) _ _ _ rfl (ho.alloc _) _ 1 1 [.int .u8 3, .int .u8 16, .int .i64 (p : Nat), .int .i64 (n : Nat)] rfl rfl ?c1 ?c2 ?c3 ?c4 ?c5 ?_)))
  case c1 =>
    intro jj u hj
    match jj, hj with
    | 0, hj => simp at hj; subst hj; simp [Addr.add, go_sem]
    | 1, hj => simp at hj; subst hj; simp [Addr.add, go_sem]
    | 2, hj => simp at hj; subst hj; simp [Addr.add, go_sem]
    | 3, hj => simp at hj; subst hj; simp [Addr.add, go_sem]
  case c2 => intro u hu; simp at hu; rcases hu with rfl | rfl | rfl | rfl <;> rfl
  case c3 => have := HL.out; unfold maxLen; omega
  case c4 => have := HL.out; omega
  case c5 => have := Below.size HO1.out.up; rw [World.size_alloc]; omega
  intro v5 w5 hown5 hgrow5 _
  obtain ⟨A5, q5, rfl⟩ := own_slice hown5
  have hbx := HO1.out.mid hgrow5
  have x0 : w5.cell? ⟨bo, 0, none⟩ = some v := cellOf hbx rfl
  have y0 : w5.frozen? ⟨bo, 0, none⟩ = false := frozenOf hbx
  have x2 : w5.cell? ⟨bo, 2, none⟩ = some (.int .i64 (st.depth)) := cellOf hbx rfl
  have x4 : w5.cell? ⟨bo, 4, none⟩ = some (.bool st.s) := cellOf hbx rfl
  have y4 : w5.frozen? ⟨bo, 4, none⟩ = false := frozenOf hbx
  have x5 : w5.cell? ⟨bo, 5, none⟩ = some (.bool st.c) := cellOf hbx rfl
  have y5 : w5.frozen? ⟨bo, 5, none⟩ = false := frozenOf hbx
  have HO2 := Lib.hid (HO1.out.app hown5 hgrow5)
  clear hown5 hgrow5 hbx ho
  go_wp2
  exact HK.out _ _ _ ⟨rfl, rfl, rfl, rfl, rfl, rfl⟩ ((HO2.out.set (k := 4) (u := .bool true) (st' := ⟨r, st.depth, st.j, true, st.c⟩) rfl).set (k := 5) (u := .bool false) (st' := ⟨r, st.depth, st.j, true, false⟩) rfl)
set_option maxRecDepth 1000000 in
set_option maxHeartbeats 8000000 in
theorem case_begin2 (w0 W : World) (t : ByteArray) (p bo br : Nat) (v : Value) (es : List PEv) (st : PSt) (hp : p < t.size) (hs : (t.size : Int) ≤ 1000000) (c : Nat) (hc : bt t p = c) (hn : c ≠ 32 ∧ c ≠ 9 ∧ c ≠ 12 ∧ c ≠ 13 ∧ c ≠ 35 ∧ c ≠ 92) (hm : st.mark = 0) (r b : Nat) (hr : (begL ((bl t).drop p)).1 = r) (hr0 : r ≠ 0) (hb : begE p (begL ((bl t).drop p)) = b) (hbl : b ≤ t.size) (n : Nat) (hN : b + (clo (quo r) ((bl t).drop b)).1 = n) (hk : (clo (quo r) ((bl t).drop b)).2 = 1) (hm2 : 2 < r) (hl : es.length ≤ 1000000) (HO : Hid (OutAt w0 W bo br v es st)) (K : Act → World → Prop) (Q0 : Exit → Act → World → Prop)
    (hK : ∀ (a : Act) (W' : World) (v' : Value), Fr a t bo br (n) → OutAt w0 W' bo br v' (es ++ [⟨16, p, n⟩]) (⟨r, st.depth, st.j, true, false⟩) → K a W') (u0 u1 u2 u3 u4 u5 u6 u7 u12 u13 u14 u15 u16 u17 u18 u19 u20 u21 u22 u23 u24 u25 u26 u27 u28 u29 u30 u31 u32 u33 u34 u35 u36 u37 u38 u39 u40 u41 u42 u43 u44 u45 u46 u47 u48 u49 u50 u51 u52 u53 u54 u55 u56 u57 u58 u59 u60 u61 u62 u63 u64 u65 u66 u67 u68 u69 u70 u71 u72 u73 u74 u75 u76 u77 u78 u79 u80 u81 u82 u83 u84 u85 u86 u87 u88 u89 u90 u91 u92 u93 u94 u95 u96 u97 u98 u99 u100 u101 u102 u103 u104 u105 u106 u107 u108 u109 u110 u111 u112 u113 u114 u115 u116 u117 u118 u119 u120 u121 u122 u123 u124 u125 u126 u127 u128 u129 u130 u131 u132 u133 u134 u135 u136 u137 u138 u139 u140 u141 u142 u143 u144 u145 u146 u147 u148 u149 u150 u151 u152 u153 u154 u155 u156 u157 u158 u159 u160 u161 u162 u163 u164 u165 u166 u167 u168 u169 u170 u171 u172 u173 u174 u175 u176 u177 u178 u179 u180 u181 u182 u183 u184 u185 u186 u187 u188 u189 u190 u191 u192 u193 u194 u195 u196 u197 u198 u199 u200 u201 u202 u203 u204 u205 u206 u207 u208 u209 u210 u211 u212 u213 u214 u215 u216 u217 u218 u219 u220 u221 u222 u223 u224 u225 u226 u227 u228 u229 u230 u231 u232 u233 u234 u235 u236 u237 u238 u239 u240 u241 u242 u243 u244 u245 u246 u247 u248 u249 u250 u251 u252 u253 u254 u255 u256 u257 u258 u259 u260 u261 : Value) :
    Code.wp Tryz.prog scanBody (Exit.then K Q0) ⟨(u0 :: u1 :: u2 :: u3 :: u4 :: u5 :: u6 :: u7 :: (Value.pointer (some ⟨br, 0, none⟩)) :: (Value.string t) :: (Value.pointer (some ⟨bo, 0, none⟩)) :: (Value.int .i64 (p : Nat)) :: u12 :: u13 :: u14 :: u15 :: u16 :: u17 :: u18 :: u19 :: u20 :: u21 :: u22 :: u23 :: u24 :: u25 :: u26 :: u27 :: u28 :: u29 :: u30 :: u31 :: u32 :: u33 :: u34 :: u35 :: u36 :: u37 :: u38 :: u39 :: u40 :: u41 :: u42 :: u43 :: u44 :: u45 :: u46 :: u47 :: u48 :: u49 :: u50 :: u51 :: u52 :: u53 :: u54 :: u55 :: u56 :: u57 :: u58 :: u59 :: u60 :: u61 :: u62 :: u63 :: u64 :: u65 :: u66 :: u67 :: u68 :: u69 :: u70 :: u71 :: u72 :: u73 :: u74 :: u75 :: u76 :: u77 :: u78 :: u79 :: u80 :: u81 :: u82 :: u83 :: u84 :: u85 :: u86 :: u87 :: u88 :: u89 :: u90 :: u91 :: u92 :: u93 :: u94 :: u95 :: u96 :: u97 :: u98 :: u99 :: u100 :: u101 :: u102 :: u103 :: u104 :: u105 :: u106 :: u107 :: u108 :: u109 :: u110 :: u111 :: u112 :: u113 :: u114 :: u115 :: u116 :: u117 :: u118 :: u119 :: u120 :: u121 :: u122 :: u123 :: u124 :: u125 :: u126 :: u127 :: u128 :: u129 :: u130 :: u131 :: u132 :: u133 :: u134 :: u135 :: u136 :: u137 :: u138 :: u139 :: u140 :: u141 :: u142 :: u143 :: u144 :: u145 :: u146 :: u147 :: u148 :: u149 :: u150 :: u151 :: u152 :: u153 :: u154 :: u155 :: u156 :: u157 :: u158 :: u159 :: u160 :: u161 :: u162 :: u163 :: u164 :: u165 :: u166 :: u167 :: u168 :: u169 :: u170 :: u171 :: u172 :: u173 :: u174 :: u175 :: u176 :: u177 :: u178 :: u179 :: u180 :: u181 :: u182 :: u183 :: u184 :: u185 :: u186 :: u187 :: u188 :: u189 :: u190 :: u191 :: u192 :: u193 :: u194 :: u195 :: u196 :: u197 :: u198 :: u199 :: u200 :: u201 :: u202 :: u203 :: u204 :: u205 :: u206 :: u207 :: u208 :: u209 :: u210 :: u211 :: u212 :: u213 :: u214 :: u215 :: u216 :: u217 :: u218 :: u219 :: u220 :: u221 :: u222 :: u223 :: u224 :: u225 :: u226 :: u227 :: u228 :: u229 :: u230 :: u231 :: u232 :: u233 :: u234 :: u235 :: u236 :: u237 :: u238 :: u239 :: u240 :: u241 :: u242 :: u243 :: u244 :: u245 :: u246 :: u247 :: u248 :: u249 :: u250 :: u251 :: u252 :: u253 :: u254 :: u255 :: u256 :: u257 :: u258 :: u259 :: u260 :: u261 :: []).toArray, []⟩ W := by
  conv => arg 2; whnf
  have HB := Lib.hid (fun W' => begins_any t p W' hs (Nat.le_of_lt hp))
  obtain ⟨r1, hr1⟩ : ∃ r1, (begL ((bl t).drop p)).1 = r1 := ⟨_, rfl⟩
  obtain ⟨r2, hr2⟩ : ∃ r2, begE p (begL ((bl t).drop p)) = r2 := ⟨_, rfl⟩
  rw [hr1, hr2] at HB
  have HCl := Lib.hid (fun W => close_any t (quoB r) b W hs (by have := quoB_le r; omega) hbl)
  have HQ := Lib.hid (fun W => quotes_any r W)
  rw [quoB_bl, hN, hk] at HCl
  rw [show ((1 : Nat) : Int) = 1 from rfl] at HCl
  have hx : t[p].toNat = c := by rw [bt_eq hp]; exact hc
  obtain rfl : r = r1 := by rw [← hr1, hr]
  obtain rfl : b = r2 := by rw [← hr2, hb]
  have n32 : ((c : Int) == 32) = false := beq_eq_false_iff_ne.2 (by omega)
  have n9 : ((c : Int) == 9) = false := beq_eq_false_iff_ne.2 (by omega)
  have n12 : ((c : Int) == 12) = false := beq_eq_false_iff_ne.2 (by omega)
  have n13 : ((c : Int) == 13) = false := beq_eq_false_iff_ne.2 (by omega)
  have n35 : ((c : Int) == 35) = false := beq_eq_false_iff_ne.2 (by omega)
  have n92 : ((c : Int) == 92) = false := beq_eq_false_iff_ne.2 (by omega)
  have m32 : ¬ (c : Int) = 32 := by omega
  have m9 : ¬ (c : Int) = 9 := by omega
  have m12 : ¬ (c : Int) = 12 := by omega
  have m13 : ¬ (c : Int) = 13 := by omega
  have m35 : ¬ (c : Int) = 35 := by omega
  have m92 : ¬ (c : Int) = 92 := by omega
  have q32 : ((c : Int) != 32) = true := bne_iff_ne.2 (by omega)
  have q9 : ((c : Int) != 9) = true := bne_iff_ne.2 (by omega)
  have q12 : ((c : Int) != 12) = true := bne_iff_ne.2 (by omega)
  have q13 : ((c : Int) != 13) = true := bne_iff_ne.2 (by omega)
  have q35 : ((c : Int) != 35) = true := bne_iff_ne.2 (by omega)
  have q92 : ((c : Int) != 92) = true := bne_iff_ne.2 (by omega)
  have qr : ((r : Int) != 0) = true := bne_iff_ne.2 (by omega)
  have r0 : ((r : Int) == 0) = false := beq_eq_false_iff_ne.2 (by omega)
  have r0' : ¬ (r : Int) = 0 := by omega
  have l2 : ¬ (r : Int) ≤ 2 := by omega
  have l2d : decide ((r : Int) ≤ 2) = false := decide_eq_false (by omega)
  have l3 : (2 : Int) < r := by omega
  have p0 : (0 : Int) ≤ p := by omega
  have p1 : (p : Int) < t.size := by omega
  have e0 : IntKind.i64.wrap ((p : Int) + 1) = (p : Int) + 1 := IntWalk.i64_in _ (by omega)
  have HK := Lib.hid hK
  have HL := Lib.hid hl
  clear hr1 hr2 hs hK hl hN hk hm2 hc hn hr hr0 hb hbl
  go_wp2_with (first
    | (go_at_call 31; ((with_reducible refine (HB.out _).mono ?_); rintro e w1 ⟨rfl, hu⟩; have HO1 := Lib.hid (HO.out.more hu); have c1 := HO1.out.cell (k := 1) (show _ = some (.int .u8 (st.mark : Nat)) from rfl); have c0 := HO1.out.cell (k := 0) (show _ = some v from rfl); have z0 := HO1.out.fr 0; have z1 := HO1.out.fr 1; have z2 := HO1.out.fr 2; have z3 := HO1.out.fr 3; have c3 := HO1.out.cell (k := 3) (show _ = some (.bool st.j) from rfl); have z4 := HO1.out.fr 4; have c4 := HO1.out.cell (k := 4) (show _ = some (.bool st.s) from rfl); have z5 := HO1.out.fr 5; have c5 := HO1.out.cell (k := 5) (show _ = some (.bool st.c) from rfl); have c2 := HO1.out.cell (k := 2) (show _ = some (.int .i64 st.depth) from rfl); rw [hm, show ((0 : Nat) : Int) = 0 from rfl] at c1; clear hu))
    | (go_at_call 33; ((with_reducible refine (HQ.out _).mono ?_); rintro e w7 ⟨rfl, rfl⟩))
    | (go_at_call 32; ((with_reducible refine (HCl.out _).mono ?_); rintro e w7 ⟨rfl, rfl⟩))
    | (at_builtin; (have HO1 := Lib.hid (HO1.out.set (k := 1) (st' := ⟨r, st.depth, st.j, st.s, st.c⟩) (u := .int .u8 (r : Nat)) rfl); obtain ⟨i0, hi0, hz0, hz1, hz2⟩ := info_parts infoEvent; have ho := HO1.out.row; unfold RowE at ho; refine wpList_append_own _ rfl _ _ 30 rfl w0.heap.size 46 i0 (.agg #[.int .u8 0, .int .u8 0, .int .i64 0, .int .i64 0]) 4 24 Tryz.underlying30 hi0 hz0 hz1 hz2 rfl (by decide) _ _ _ rfl (ho.alloc _) _ 1 1 [.int .u8 3, .int .u8 16, .int .i64 (p : Nat), .int .i64 (n : Nat)] rfl rfl ?c1 ?c2 ?c3 ?c4 ?c5 ?_)))
  case c1 =>
    intro jj u hj
    match jj, hj with
    | 0, hj => simp at hj; subst hj; simp [Addr.add, go_sem]
    | 1, hj => simp at hj; subst hj; simp [Addr.add, go_sem]
    | 2, hj => simp at hj; subst hj; simp [Addr.add, go_sem]
    | 3, hj => simp at hj; subst hj; simp [Addr.add, go_sem]
  case c2 => intro u hu; simp at hu; rcases hu with rfl | rfl | rfl | rfl <;> rfl
  case c3 => have := HL.out; unfold maxLen; omega
  case c4 => have := HL.out; omega
  case c5 => have := Below.size HO1.out.up; rw [World.size_alloc]; omega
  intro v5 w5 hown5 hgrow5 _
  obtain ⟨A5, q5, rfl⟩ := own_slice hown5
  have hbx := HO1.out.mid hgrow5
  have x0 : w5.cell? ⟨bo, 0, none⟩ = some v := cellOf hbx rfl
  have y0 : w5.frozen? ⟨bo, 0, none⟩ = false := frozenOf hbx
  have x2 : w5.cell? ⟨bo, 2, none⟩ = some (.int .i64 (st.depth)) := cellOf hbx rfl
  have x4 : w5.cell? ⟨bo, 4, none⟩ = some (.bool st.s) := cellOf hbx rfl
  have y4 : w5.frozen? ⟨bo, 4, none⟩ = false := frozenOf hbx
  have x5 : w5.cell? ⟨bo, 5, none⟩ = some (.bool st.c) := cellOf hbx rfl
  have y5 : w5.frozen? ⟨bo, 5, none⟩ = false := frozenOf hbx
  have HO2 := Lib.hid (HO1.out.app hown5 hgrow5)
  clear hown5 hgrow5 hbx ho
  go_wp2
  exact HK.out _ _ _ ⟨rfl, rfl, rfl, rfl, rfl, rfl⟩ ((HO2.out.set (k := 4) (u := .bool true) (st' := ⟨r, st.depth, st.j, true, st.c⟩) rfl).set (k := 5) (u := .bool false) (st' := ⟨r, st.depth, st.j, true, false⟩) rfl)
set_option maxRecDepth 1000000 in
set_option maxHeartbeats 8000000 in
theorem case_begin3 (w0 W : World) (t : ByteArray) (p bo br : Nat) (v : Value) (es : List PEv) (st : PSt) (hp : p < t.size) (hs : (t.size : Int) ≤ 1000000) (c : Nat) (hc : bt t p = c) (hn : c ≠ 32 ∧ c ≠ 9 ∧ c ≠ 12 ∧ c ≠ 13 ∧ c ≠ 35 ∧ c ≠ 92) (hm : st.mark = 0) (r b : Nat) (hr : (begL ((bl t).drop p)).1 = r) (hr0 : r ≠ 0) (hb : begE p (begL ((bl t).drop p)) = b) (hbl : b ≤ t.size) (n : Nat) (hN : b + (clo (quo r) ((bl t).drop b)).1 = n) (hk : (clo (quo r) ((bl t).drop b)).2 = 2) (hm2 : 2 < r) (hl : es.length ≤ 1000000) (HO : Hid (OutAt w0 W bo br v es st)) (K : Act → World → Prop) (Q0 : Exit → Act → World → Prop)
    (hK : ∀ (a : Act) (W' : World) (v' : Value), Fr a t bo br (n) → OutAt w0 W' bo br v' (es ++ [⟨2, p, n⟩]) (⟨0, st.depth, st.j, true, false⟩) → K a W') (u0 u1 u2 u3 u4 u5 u6 u7 u12 u13 u14 u15 u16 u17 u18 u19 u20 u21 u22 u23 u24 u25 u26 u27 u28 u29 u30 u31 u32 u33 u34 u35 u36 u37 u38 u39 u40 u41 u42 u43 u44 u45 u46 u47 u48 u49 u50 u51 u52 u53 u54 u55 u56 u57 u58 u59 u60 u61 u62 u63 u64 u65 u66 u67 u68 u69 u70 u71 u72 u73 u74 u75 u76 u77 u78 u79 u80 u81 u82 u83 u84 u85 u86 u87 u88 u89 u90 u91 u92 u93 u94 u95 u96 u97 u98 u99 u100 u101 u102 u103 u104 u105 u106 u107 u108 u109 u110 u111 u112 u113 u114 u115 u116 u117 u118 u119 u120 u121 u122 u123 u124 u125 u126 u127 u128 u129 u130 u131 u132 u133 u134 u135 u136 u137 u138 u139 u140 u141 u142 u143 u144 u145 u146 u147 u148 u149 u150 u151 u152 u153 u154 u155 u156 u157 u158 u159 u160 u161 u162 u163 u164 u165 u166 u167 u168 u169 u170 u171 u172 u173 u174 u175 u176 u177 u178 u179 u180 u181 u182 u183 u184 u185 u186 u187 u188 u189 u190 u191 u192 u193 u194 u195 u196 u197 u198 u199 u200 u201 u202 u203 u204 u205 u206 u207 u208 u209 u210 u211 u212 u213 u214 u215 u216 u217 u218 u219 u220 u221 u222 u223 u224 u225 u226 u227 u228 u229 u230 u231 u232 u233 u234 u235 u236 u237 u238 u239 u240 u241 u242 u243 u244 u245 u246 u247 u248 u249 u250 u251 u252 u253 u254 u255 u256 u257 u258 u259 u260 u261 : Value) :
    Code.wp Tryz.prog scanBody (Exit.then K Q0) ⟨(u0 :: u1 :: u2 :: u3 :: u4 :: u5 :: u6 :: u7 :: (Value.pointer (some ⟨br, 0, none⟩)) :: (Value.string t) :: (Value.pointer (some ⟨bo, 0, none⟩)) :: (Value.int .i64 (p : Nat)) :: u12 :: u13 :: u14 :: u15 :: u16 :: u17 :: u18 :: u19 :: u20 :: u21 :: u22 :: u23 :: u24 :: u25 :: u26 :: u27 :: u28 :: u29 :: u30 :: u31 :: u32 :: u33 :: u34 :: u35 :: u36 :: u37 :: u38 :: u39 :: u40 :: u41 :: u42 :: u43 :: u44 :: u45 :: u46 :: u47 :: u48 :: u49 :: u50 :: u51 :: u52 :: u53 :: u54 :: u55 :: u56 :: u57 :: u58 :: u59 :: u60 :: u61 :: u62 :: u63 :: u64 :: u65 :: u66 :: u67 :: u68 :: u69 :: u70 :: u71 :: u72 :: u73 :: u74 :: u75 :: u76 :: u77 :: u78 :: u79 :: u80 :: u81 :: u82 :: u83 :: u84 :: u85 :: u86 :: u87 :: u88 :: u89 :: u90 :: u91 :: u92 :: u93 :: u94 :: u95 :: u96 :: u97 :: u98 :: u99 :: u100 :: u101 :: u102 :: u103 :: u104 :: u105 :: u106 :: u107 :: u108 :: u109 :: u110 :: u111 :: u112 :: u113 :: u114 :: u115 :: u116 :: u117 :: u118 :: u119 :: u120 :: u121 :: u122 :: u123 :: u124 :: u125 :: u126 :: u127 :: u128 :: u129 :: u130 :: u131 :: u132 :: u133 :: u134 :: u135 :: u136 :: u137 :: u138 :: u139 :: u140 :: u141 :: u142 :: u143 :: u144 :: u145 :: u146 :: u147 :: u148 :: u149 :: u150 :: u151 :: u152 :: u153 :: u154 :: u155 :: u156 :: u157 :: u158 :: u159 :: u160 :: u161 :: u162 :: u163 :: u164 :: u165 :: u166 :: u167 :: u168 :: u169 :: u170 :: u171 :: u172 :: u173 :: u174 :: u175 :: u176 :: u177 :: u178 :: u179 :: u180 :: u181 :: u182 :: u183 :: u184 :: u185 :: u186 :: u187 :: u188 :: u189 :: u190 :: u191 :: u192 :: u193 :: u194 :: u195 :: u196 :: u197 :: u198 :: u199 :: u200 :: u201 :: u202 :: u203 :: u204 :: u205 :: u206 :: u207 :: u208 :: u209 :: u210 :: u211 :: u212 :: u213 :: u214 :: u215 :: u216 :: u217 :: u218 :: u219 :: u220 :: u221 :: u222 :: u223 :: u224 :: u225 :: u226 :: u227 :: u228 :: u229 :: u230 :: u231 :: u232 :: u233 :: u234 :: u235 :: u236 :: u237 :: u238 :: u239 :: u240 :: u241 :: u242 :: u243 :: u244 :: u245 :: u246 :: u247 :: u248 :: u249 :: u250 :: u251 :: u252 :: u253 :: u254 :: u255 :: u256 :: u257 :: u258 :: u259 :: u260 :: u261 :: []).toArray, []⟩ W := by
  conv => arg 2; whnf
  have HB := Lib.hid (fun W' => begins_any t p W' hs (Nat.le_of_lt hp))
  obtain ⟨r1, hr1⟩ : ∃ r1, (begL ((bl t).drop p)).1 = r1 := ⟨_, rfl⟩
  obtain ⟨r2, hr2⟩ : ∃ r2, begE p (begL ((bl t).drop p)) = r2 := ⟨_, rfl⟩
  rw [hr1, hr2] at HB
  have HCl := Lib.hid (fun W => close_any t (quoB r) b W hs (by have := quoB_le r; omega) hbl)
  have HQ := Lib.hid (fun W => quotes_any r W)
  rw [quoB_bl, hN, hk] at HCl
  rw [show ((2 : Nat) : Int) = 2 from rfl] at HCl
  have hx : t[p].toNat = c := by rw [bt_eq hp]; exact hc
  obtain rfl : r = r1 := by rw [← hr1, hr]
  obtain rfl : b = r2 := by rw [← hr2, hb]
  have n32 : ((c : Int) == 32) = false := beq_eq_false_iff_ne.2 (by omega)
  have n9 : ((c : Int) == 9) = false := beq_eq_false_iff_ne.2 (by omega)
  have n12 : ((c : Int) == 12) = false := beq_eq_false_iff_ne.2 (by omega)
  have n13 : ((c : Int) == 13) = false := beq_eq_false_iff_ne.2 (by omega)
  have n35 : ((c : Int) == 35) = false := beq_eq_false_iff_ne.2 (by omega)
  have n92 : ((c : Int) == 92) = false := beq_eq_false_iff_ne.2 (by omega)
  have m32 : ¬ (c : Int) = 32 := by omega
  have m9 : ¬ (c : Int) = 9 := by omega
  have m12 : ¬ (c : Int) = 12 := by omega
  have m13 : ¬ (c : Int) = 13 := by omega
  have m35 : ¬ (c : Int) = 35 := by omega
  have m92 : ¬ (c : Int) = 92 := by omega
  have q32 : ((c : Int) != 32) = true := bne_iff_ne.2 (by omega)
  have q9 : ((c : Int) != 9) = true := bne_iff_ne.2 (by omega)
  have q12 : ((c : Int) != 12) = true := bne_iff_ne.2 (by omega)
  have q13 : ((c : Int) != 13) = true := bne_iff_ne.2 (by omega)
  have q35 : ((c : Int) != 35) = true := bne_iff_ne.2 (by omega)
  have q92 : ((c : Int) != 92) = true := bne_iff_ne.2 (by omega)
  have qr : ((r : Int) != 0) = true := bne_iff_ne.2 (by omega)
  have r0 : ((r : Int) == 0) = false := beq_eq_false_iff_ne.2 (by omega)
  have r0' : ¬ (r : Int) = 0 := by omega
  have l2 : ¬ (r : Int) ≤ 2 := by omega
  have l2d : decide ((r : Int) ≤ 2) = false := decide_eq_false (by omega)
  have l3 : (2 : Int) < r := by omega
  have p0 : (0 : Int) ≤ p := by omega
  have p1 : (p : Int) < t.size := by omega
  have e0 : IntKind.i64.wrap ((p : Int) + 1) = (p : Int) + 1 := IntWalk.i64_in _ (by omega)
  have HK := Lib.hid hK
  have HL := Lib.hid hl
  clear hr1 hr2 hs hK hl hN hk hm2 hc hn hr hr0 hb hbl
  go_wp2_with (first
    | (go_at_call 31; ((with_reducible refine (HB.out _).mono ?_); rintro e w1 ⟨rfl, hu⟩; have HO1 := Lib.hid (HO.out.more hu); have c1 := HO1.out.cell (k := 1) (show _ = some (.int .u8 (st.mark : Nat)) from rfl); have c0 := HO1.out.cell (k := 0) (show _ = some v from rfl); have z0 := HO1.out.fr 0; have z1 := HO1.out.fr 1; have z2 := HO1.out.fr 2; have z3 := HO1.out.fr 3; have c3 := HO1.out.cell (k := 3) (show _ = some (.bool st.j) from rfl); have z4 := HO1.out.fr 4; have c4 := HO1.out.cell (k := 4) (show _ = some (.bool st.s) from rfl); have z5 := HO1.out.fr 5; have c5 := HO1.out.cell (k := 5) (show _ = some (.bool st.c) from rfl); have c2 := HO1.out.cell (k := 2) (show _ = some (.int .i64 st.depth) from rfl); rw [hm, show ((0 : Nat) : Int) = 0 from rfl] at c1; clear hu))
    | (go_at_call 33; ((with_reducible refine (HQ.out _).mono ?_); rintro e w7 ⟨rfl, rfl⟩))
    | (go_at_call 32; ((with_reducible refine (HCl.out _).mono ?_); rintro e w7 ⟨rfl, rfl⟩))
    | (at_builtin; (have HO1 := Lib.hid (HO1.out.set (k := 1) (st' := ⟨r, st.depth, st.j, st.s, st.c⟩) (u := .int .u8 (r : Nat)) rfl); have HO1 := Lib.hid (HO1.out.set (k := 1) (st' := ⟨0, st.depth, st.j, st.s, st.c⟩) (u := .int .u8 0) rfl); obtain ⟨i0, hi0, hz0, hz1, hz2⟩ := info_parts infoEvent; have ho := HO1.out.row; unfold RowE at ho; refine wpList_append_own _ rfl _ _ 30 rfl w0.heap.size 46 i0 (.agg #[.int .u8 0, .int .u8 0, .int .i64 0, .int .i64 0]) 4 24 Tryz.underlying30 hi0 hz0 hz1 hz2 rfl (by decide) _ _ _ rfl (ho.alloc _) _ 1 1 [.int .u8 3, .int .u8 2, .int .i64 (p : Nat), .int .i64 (n : Nat)] rfl rfl ?c1 ?c2 ?c3 ?c4 ?c5 ?_)))
  case c1 =>
    intro jj u hj
    match jj, hj with
    | 0, hj => simp at hj; subst hj; simp [Addr.add, go_sem]
    | 1, hj => simp at hj; subst hj; simp [Addr.add, go_sem]
    | 2, hj => simp at hj; subst hj; simp [Addr.add, go_sem]
    | 3, hj => simp at hj; subst hj; simp [Addr.add, go_sem]
  case c2 => intro u hu; simp at hu; rcases hu with rfl | rfl | rfl | rfl <;> rfl
  case c3 => have := HL.out; unfold maxLen; omega
  case c4 => have := HL.out; omega
  case c5 => have := Below.size HO1.out.up; rw [World.size_alloc]; omega
  intro v5 w5 hown5 hgrow5 _
  obtain ⟨A5, q5, rfl⟩ := own_slice hown5
  have hbx := HO1.out.mid hgrow5
  have x0 : w5.cell? ⟨bo, 0, none⟩ = some v := cellOf hbx rfl
  have y0 : w5.frozen? ⟨bo, 0, none⟩ = false := frozenOf hbx
  have x2 : w5.cell? ⟨bo, 2, none⟩ = some (.int .i64 (st.depth)) := cellOf hbx rfl
  have x4 : w5.cell? ⟨bo, 4, none⟩ = some (.bool st.s) := cellOf hbx rfl
  have y4 : w5.frozen? ⟨bo, 4, none⟩ = false := frozenOf hbx
  have x5 : w5.cell? ⟨bo, 5, none⟩ = some (.bool st.c) := cellOf hbx rfl
  have y5 : w5.frozen? ⟨bo, 5, none⟩ = false := frozenOf hbx
  have HO2 := Lib.hid (HO1.out.app hown5 hgrow5)
  clear hown5 hgrow5 hbx ho
  go_wp2
  exact HK.out _ _ _ ⟨rfl, rfl, rfl, rfl, rfl, rfl⟩ ((HO2.out.set (k := 4) (u := .bool true) (st' := ⟨0, st.depth, st.j, true, st.c⟩) rfl).set (k := 5) (u := .bool false) (st' := ⟨0, st.depth, st.j, true, false⟩) rfl)
end Go.Proofs.YtmfcapbllbfjnaaGreatDoor

namespace Go.Proofs.YtmfcapbllbfjnaaGreatDoor
open Go.RowKit

set_option maxRecDepth 1000000 in
set_option maxHeartbeats 8000000 in
theorem case_goes0 (w0 W : World) (t : ByteArray) (p bo br : Nat) (v : Value) (es : List PEv) (st : PSt) (hp : p < t.size) (hs : (t.size : Int) ≤ 1000000) (hm : st.mark ≠ 0) (n : Nat) (hN : p + (clo (quo st.mark) ((bl t).drop p)).1 = n) (hk : (clo (quo st.mark) ((bl t).drop p)).2 = 0) (hl : es.length ≤ 1000000) (HO : Hid (OutAt w0 W bo br v es st)) (K : Act → World → Prop) (Q0 : Exit → Act → World → Prop)
    (hK : ∀ (a : Act) (W' : World) (v' : Value), Fr a t bo br (n) → OutAt w0 W' bo br v' (es ++ [⟨16, p, n⟩]) (⟨0, st.depth, st.j, true, false⟩) → K a W') (u0 u1 u2 u3 u4 u5 u6 u7 u12 u13 u14 u15 u16 u17 u18 u19 u20 u21 u22 u23 u24 u25 u26 u27 u28 u29 u30 u31 u32 u33 u34 u35 u36 u37 u38 u39 u40 u41 u42 u43 u44 u45 u46 u47 u48 u49 u50 u51 u52 u53 u54 u55 u56 u57 u58 u59 u60 u61 u62 u63 u64 u65 u66 u67 u68 u69 u70 u71 u72 u73 u74 u75 u76 u77 u78 u79 u80 u81 u82 u83 u84 u85 u86 u87 u88 u89 u90 u91 u92 u93 u94 u95 u96 u97 u98 u99 u100 u101 u102 u103 u104 u105 u106 u107 u108 u109 u110 u111 u112 u113 u114 u115 u116 u117 u118 u119 u120 u121 u122 u123 u124 u125 u126 u127 u128 u129 u130 u131 u132 u133 u134 u135 u136 u137 u138 u139 u140 u141 u142 u143 u144 u145 u146 u147 u148 u149 u150 u151 u152 u153 u154 u155 u156 u157 u158 u159 u160 u161 u162 u163 u164 u165 u166 u167 u168 u169 u170 u171 u172 u173 u174 u175 u176 u177 u178 u179 u180 u181 u182 u183 u184 u185 u186 u187 u188 u189 u190 u191 u192 u193 u194 u195 u196 u197 u198 u199 u200 u201 u202 u203 u204 u205 u206 u207 u208 u209 u210 u211 u212 u213 u214 u215 u216 u217 u218 u219 u220 u221 u222 u223 u224 u225 u226 u227 u228 u229 u230 u231 u232 u233 u234 u235 u236 u237 u238 u239 u240 u241 u242 u243 u244 u245 u246 u247 u248 u249 u250 u251 u252 u253 u254 u255 u256 u257 u258 u259 u260 u261 : Value) :
    Code.wp Tryz.prog scanBody (Exit.then K Q0) ⟨(u0 :: u1 :: u2 :: u3 :: u4 :: u5 :: u6 :: u7 :: (Value.pointer (some ⟨br, 0, none⟩)) :: (Value.string t) :: (Value.pointer (some ⟨bo, 0, none⟩)) :: (Value.int .i64 (p : Nat)) :: u12 :: u13 :: u14 :: u15 :: u16 :: u17 :: u18 :: u19 :: u20 :: u21 :: u22 :: u23 :: u24 :: u25 :: u26 :: u27 :: u28 :: u29 :: u30 :: u31 :: u32 :: u33 :: u34 :: u35 :: u36 :: u37 :: u38 :: u39 :: u40 :: u41 :: u42 :: u43 :: u44 :: u45 :: u46 :: u47 :: u48 :: u49 :: u50 :: u51 :: u52 :: u53 :: u54 :: u55 :: u56 :: u57 :: u58 :: u59 :: u60 :: u61 :: u62 :: u63 :: u64 :: u65 :: u66 :: u67 :: u68 :: u69 :: u70 :: u71 :: u72 :: u73 :: u74 :: u75 :: u76 :: u77 :: u78 :: u79 :: u80 :: u81 :: u82 :: u83 :: u84 :: u85 :: u86 :: u87 :: u88 :: u89 :: u90 :: u91 :: u92 :: u93 :: u94 :: u95 :: u96 :: u97 :: u98 :: u99 :: u100 :: u101 :: u102 :: u103 :: u104 :: u105 :: u106 :: u107 :: u108 :: u109 :: u110 :: u111 :: u112 :: u113 :: u114 :: u115 :: u116 :: u117 :: u118 :: u119 :: u120 :: u121 :: u122 :: u123 :: u124 :: u125 :: u126 :: u127 :: u128 :: u129 :: u130 :: u131 :: u132 :: u133 :: u134 :: u135 :: u136 :: u137 :: u138 :: u139 :: u140 :: u141 :: u142 :: u143 :: u144 :: u145 :: u146 :: u147 :: u148 :: u149 :: u150 :: u151 :: u152 :: u153 :: u154 :: u155 :: u156 :: u157 :: u158 :: u159 :: u160 :: u161 :: u162 :: u163 :: u164 :: u165 :: u166 :: u167 :: u168 :: u169 :: u170 :: u171 :: u172 :: u173 :: u174 :: u175 :: u176 :: u177 :: u178 :: u179 :: u180 :: u181 :: u182 :: u183 :: u184 :: u185 :: u186 :: u187 :: u188 :: u189 :: u190 :: u191 :: u192 :: u193 :: u194 :: u195 :: u196 :: u197 :: u198 :: u199 :: u200 :: u201 :: u202 :: u203 :: u204 :: u205 :: u206 :: u207 :: u208 :: u209 :: u210 :: u211 :: u212 :: u213 :: u214 :: u215 :: u216 :: u217 :: u218 :: u219 :: u220 :: u221 :: u222 :: u223 :: u224 :: u225 :: u226 :: u227 :: u228 :: u229 :: u230 :: u231 :: u232 :: u233 :: u234 :: u235 :: u236 :: u237 :: u238 :: u239 :: u240 :: u241 :: u242 :: u243 :: u244 :: u245 :: u246 :: u247 :: u248 :: u249 :: u250 :: u251 :: u252 :: u253 :: u254 :: u255 :: u256 :: u257 :: u258 :: u259 :: u260 :: u261 :: []).toArray, []⟩ W := by
  conv => arg 2; whnf
  have HB := Lib.hid (fun W' => begins_any t p W' hs (Nat.le_of_lt hp))
  obtain ⟨r1, hr1⟩ : ∃ r1, (begL ((bl t).drop p)).1 = r1 := ⟨_, rfl⟩
  obtain ⟨r2, hr2⟩ : ∃ r2, begE p (begL ((bl t).drop p)) = r2 := ⟨_, rfl⟩
  rw [hr1, hr2] at HB
  have HCl := Lib.hid (fun W => close_any t (quoB st.mark) p W hs (by have := quoB_le st.mark; omega) (Nat.le_of_lt hp))
  have HQ := Lib.hid (fun W => quotes_any st.mark W)
  rw [quoB_bl, hN, hk] at HCl
  rw [show ((0 : Nat) : Int) = 0 from rfl] at HCl
  have r0 : ((st.mark : Int) == 0) = false := beq_eq_false_iff_ne.2 (by omega)
  have r0' : ¬ (st.mark : Int) = 0 := by omega
  have p0 : (0 : Int) ≤ p := by omega
  have p1 : (p : Int) < t.size := by omega
  have e0 : IntKind.i64.wrap ((p : Int) + 1) = (p : Int) + 1 := IntWalk.i64_in _ (by omega)
  have HK := Lib.hid hK
  have HL := Lib.hid hl
  clear hr1 hr2 hs hK hl hN hk hm
  go_wp2_with (first
    | (go_at_call 31; ((with_reducible refine (HB.out _).mono ?_); rintro e w1 ⟨rfl, hu⟩; have HO1 := Lib.hid (HO.out.more hu); have c1 := HO1.out.cell (k := 1) (show _ = some (.int .u8 (st.mark : Nat)) from rfl); have c0 := HO1.out.cell (k := 0) (show _ = some v from rfl); have z0 := HO1.out.fr 0; have z1 := HO1.out.fr 1; have z2 := HO1.out.fr 2; have z3 := HO1.out.fr 3; have c3 := HO1.out.cell (k := 3) (show _ = some (.bool st.j) from rfl); have z4 := HO1.out.fr 4; have c4 := HO1.out.cell (k := 4) (show _ = some (.bool st.s) from rfl); have z5 := HO1.out.fr 5; have c5 := HO1.out.cell (k := 5) (show _ = some (.bool st.c) from rfl); have c2 := HO1.out.cell (k := 2) (show _ = some (.int .i64 st.depth) from rfl); skip; clear hu))
    | (go_at_call 33; ((with_reducible refine (HQ.out _).mono ?_); rintro e w7 ⟨rfl, rfl⟩))
    | (go_at_call 32; ((with_reducible refine (HCl.out _).mono ?_); rintro e w7 ⟨rfl, rfl⟩))
    | (at_builtin; (have HO1 := Lib.hid (HO1.out.set (k := 1) (st' := ⟨0, st.depth, st.j, st.s, st.c⟩) (u := .int .u8 0) rfl); obtain ⟨i0, hi0, hz0, hz1, hz2⟩ := info_parts infoEvent; have ho := HO1.out.row; unfold RowE at ho; refine wpList_append_own _ rfl _ _ 30 rfl w0.heap.size 46 i0 (.agg #[.int .u8 0, .int .u8 0, .int .i64 0, .int .i64 0]) 4 24 Tryz.underlying30 hi0 hz0 hz1 hz2 rfl (by decide) _ _ _ rfl (ho.alloc _) _ 1 1 [.int .u8 3, .int .u8 16, .int .i64 (p : Nat), .int .i64 (n : Nat)] rfl rfl ?c1 ?c2 ?c3 ?c4 ?c5 ?_)))
  case c1 =>
    intro jj u hj
    match jj, hj with
    | 0, hj => simp at hj; subst hj; simp [Addr.add, go_sem]
    | 1, hj => simp at hj; subst hj; simp [Addr.add, go_sem]
    | 2, hj => simp at hj; subst hj; simp [Addr.add, go_sem]
    | 3, hj => simp at hj; subst hj; simp [Addr.add, go_sem]
  case c2 => intro u hu; simp at hu; rcases hu with rfl | rfl | rfl | rfl <;> rfl
  case c3 => have := HL.out; unfold maxLen; omega
  case c4 => have := HL.out; omega
  case c5 => have := Below.size HO1.out.up; rw [World.size_alloc]; omega
  intro v5 w5 hown5 hgrow5 _
  obtain ⟨A5, q5, rfl⟩ := own_slice hown5
  have hbx := HO1.out.mid hgrow5
  have x0 : w5.cell? ⟨bo, 0, none⟩ = some v := cellOf hbx rfl
  have y0 : w5.frozen? ⟨bo, 0, none⟩ = false := frozenOf hbx
  have x2 : w5.cell? ⟨bo, 2, none⟩ = some (.int .i64 (st.depth)) := cellOf hbx rfl
  have x4 : w5.cell? ⟨bo, 4, none⟩ = some (.bool st.s) := cellOf hbx rfl
  have y4 : w5.frozen? ⟨bo, 4, none⟩ = false := frozenOf hbx
  have x5 : w5.cell? ⟨bo, 5, none⟩ = some (.bool st.c) := cellOf hbx rfl
  have y5 : w5.frozen? ⟨bo, 5, none⟩ = false := frozenOf hbx
  have HO2 := Lib.hid (HO1.out.app hown5 hgrow5)
  clear hown5 hgrow5 hbx ho
  go_wp2
  exact HK.out _ _ _ ⟨rfl, rfl, rfl, rfl, rfl, rfl⟩ ((HO2.out.set (k := 4) (u := .bool true) (st' := ⟨0, st.depth, st.j, true, st.c⟩) rfl).set (k := 5) (u := .bool false) (st' := ⟨0, st.depth, st.j, true, false⟩) rfl)
set_option maxRecDepth 1000000 in
set_option maxHeartbeats 8000000 in
theorem case_goes1 (w0 W : World) (t : ByteArray) (p bo br : Nat) (v : Value) (es : List PEv) (st : PSt) (hp : p < t.size) (hs : (t.size : Int) ≤ 1000000) (hm : st.mark ≠ 0) (n k : Nat) (hN : p + (clo (quo st.mark) ((bl t).drop p)).1 = n) (hk : (clo (quo st.mark) ((bl t).drop p)).2 = k) (hk0 : k ≠ 0) (hm2 : st.mark ≤ 2) (hl : es.length ≤ 1000000) (HO : Hid (OutAt w0 W bo br v es st)) (K : Act → World → Prop) (Q0 : Exit → Act → World → Prop)
    (hK : ∀ (a : Act) (W' : World) (v' : Value), Fr a t bo br (n) → OutAt w0 W' bo br v' (es ++ [⟨16, p, n⟩]) (⟨st.mark, st.depth, st.j, true, false⟩) → K a W') (u0 u1 u2 u3 u4 u5 u6 u7 u12 u13 u14 u15 u16 u17 u18 u19 u20 u21 u22 u23 u24 u25 u26 u27 u28 u29 u30 u31 u32 u33 u34 u35 u36 u37 u38 u39 u40 u41 u42 u43 u44 u45 u46 u47 u48 u49 u50 u51 u52 u53 u54 u55 u56 u57 u58 u59 u60 u61 u62 u63 u64 u65 u66 u67 u68 u69 u70 u71 u72 u73 u74 u75 u76 u77 u78 u79 u80 u81 u82 u83 u84 u85 u86 u87 u88 u89 u90 u91 u92 u93 u94 u95 u96 u97 u98 u99 u100 u101 u102 u103 u104 u105 u106 u107 u108 u109 u110 u111 u112 u113 u114 u115 u116 u117 u118 u119 u120 u121 u122 u123 u124 u125 u126 u127 u128 u129 u130 u131 u132 u133 u134 u135 u136 u137 u138 u139 u140 u141 u142 u143 u144 u145 u146 u147 u148 u149 u150 u151 u152 u153 u154 u155 u156 u157 u158 u159 u160 u161 u162 u163 u164 u165 u166 u167 u168 u169 u170 u171 u172 u173 u174 u175 u176 u177 u178 u179 u180 u181 u182 u183 u184 u185 u186 u187 u188 u189 u190 u191 u192 u193 u194 u195 u196 u197 u198 u199 u200 u201 u202 u203 u204 u205 u206 u207 u208 u209 u210 u211 u212 u213 u214 u215 u216 u217 u218 u219 u220 u221 u222 u223 u224 u225 u226 u227 u228 u229 u230 u231 u232 u233 u234 u235 u236 u237 u238 u239 u240 u241 u242 u243 u244 u245 u246 u247 u248 u249 u250 u251 u252 u253 u254 u255 u256 u257 u258 u259 u260 u261 : Value) :
    Code.wp Tryz.prog scanBody (Exit.then K Q0) ⟨(u0 :: u1 :: u2 :: u3 :: u4 :: u5 :: u6 :: u7 :: (Value.pointer (some ⟨br, 0, none⟩)) :: (Value.string t) :: (Value.pointer (some ⟨bo, 0, none⟩)) :: (Value.int .i64 (p : Nat)) :: u12 :: u13 :: u14 :: u15 :: u16 :: u17 :: u18 :: u19 :: u20 :: u21 :: u22 :: u23 :: u24 :: u25 :: u26 :: u27 :: u28 :: u29 :: u30 :: u31 :: u32 :: u33 :: u34 :: u35 :: u36 :: u37 :: u38 :: u39 :: u40 :: u41 :: u42 :: u43 :: u44 :: u45 :: u46 :: u47 :: u48 :: u49 :: u50 :: u51 :: u52 :: u53 :: u54 :: u55 :: u56 :: u57 :: u58 :: u59 :: u60 :: u61 :: u62 :: u63 :: u64 :: u65 :: u66 :: u67 :: u68 :: u69 :: u70 :: u71 :: u72 :: u73 :: u74 :: u75 :: u76 :: u77 :: u78 :: u79 :: u80 :: u81 :: u82 :: u83 :: u84 :: u85 :: u86 :: u87 :: u88 :: u89 :: u90 :: u91 :: u92 :: u93 :: u94 :: u95 :: u96 :: u97 :: u98 :: u99 :: u100 :: u101 :: u102 :: u103 :: u104 :: u105 :: u106 :: u107 :: u108 :: u109 :: u110 :: u111 :: u112 :: u113 :: u114 :: u115 :: u116 :: u117 :: u118 :: u119 :: u120 :: u121 :: u122 :: u123 :: u124 :: u125 :: u126 :: u127 :: u128 :: u129 :: u130 :: u131 :: u132 :: u133 :: u134 :: u135 :: u136 :: u137 :: u138 :: u139 :: u140 :: u141 :: u142 :: u143 :: u144 :: u145 :: u146 :: u147 :: u148 :: u149 :: u150 :: u151 :: u152 :: u153 :: u154 :: u155 :: u156 :: u157 :: u158 :: u159 :: u160 :: u161 :: u162 :: u163 :: u164 :: u165 :: u166 :: u167 :: u168 :: u169 :: u170 :: u171 :: u172 :: u173 :: u174 :: u175 :: u176 :: u177 :: u178 :: u179 :: u180 :: u181 :: u182 :: u183 :: u184 :: u185 :: u186 :: u187 :: u188 :: u189 :: u190 :: u191 :: u192 :: u193 :: u194 :: u195 :: u196 :: u197 :: u198 :: u199 :: u200 :: u201 :: u202 :: u203 :: u204 :: u205 :: u206 :: u207 :: u208 :: u209 :: u210 :: u211 :: u212 :: u213 :: u214 :: u215 :: u216 :: u217 :: u218 :: u219 :: u220 :: u221 :: u222 :: u223 :: u224 :: u225 :: u226 :: u227 :: u228 :: u229 :: u230 :: u231 :: u232 :: u233 :: u234 :: u235 :: u236 :: u237 :: u238 :: u239 :: u240 :: u241 :: u242 :: u243 :: u244 :: u245 :: u246 :: u247 :: u248 :: u249 :: u250 :: u251 :: u252 :: u253 :: u254 :: u255 :: u256 :: u257 :: u258 :: u259 :: u260 :: u261 :: []).toArray, []⟩ W := by
  conv => arg 2; whnf
  have HB := Lib.hid (fun W' => begins_any t p W' hs (Nat.le_of_lt hp))
  obtain ⟨r1, hr1⟩ : ∃ r1, (begL ((bl t).drop p)).1 = r1 := ⟨_, rfl⟩
  obtain ⟨r2, hr2⟩ : ∃ r2, begE p (begL ((bl t).drop p)) = r2 := ⟨_, rfl⟩
  rw [hr1, hr2] at HB
  have HCl := Lib.hid (fun W => close_any t (quoB st.mark) p W hs (by have := quoB_le st.mark; omega) (Nat.le_of_lt hp))
  have HQ := Lib.hid (fun W => quotes_any st.mark W)
  rw [quoB_bl, hN, hk] at HCl
  have kz : ((k : Int) == 0) = false := beq_eq_false_iff_ne.2 (by omega)
  have kz' : ¬ (k : Int) = 0 := by omega
  have r0 : ((st.mark : Int) == 0) = false := beq_eq_false_iff_ne.2 (by omega)
  have r0' : ¬ (st.mark : Int) = 0 := by omega
  have l2 : (st.mark : Int) ≤ 2 := by omega
  have l2d : decide ((st.mark : Int) ≤ 2) = true := decide_eq_true (by omega)
  have p0 : (0 : Int) ≤ p := by omega
  have p1 : (p : Int) < t.size := by omega
  have e0 : IntKind.i64.wrap ((p : Int) + 1) = (p : Int) + 1 := IntWalk.i64_in _ (by omega)
  have HK := Lib.hid hK
  have HL := Lib.hid hl
  clear hr1 hr2 hs hK hl hN hk hk0 hm2 hm
  go_wp2_with (first
    | (go_at_call 31; ((with_reducible refine (HB.out _).mono ?_); rintro e w1 ⟨rfl, hu⟩; have HO1 := Lib.hid (HO.out.more hu); have c1 := HO1.out.cell (k := 1) (show _ = some (.int .u8 (st.mark : Nat)) from rfl); have c0 := HO1.out.cell (k := 0) (show _ = some v from rfl); have z0 := HO1.out.fr 0; have z1 := HO1.out.fr 1; have z2 := HO1.out.fr 2; have z3 := HO1.out.fr 3; have c3 := HO1.out.cell (k := 3) (show _ = some (.bool st.j) from rfl); have z4 := HO1.out.fr 4; have c4 := HO1.out.cell (k := 4) (show _ = some (.bool st.s) from rfl); have z5 := HO1.out.fr 5; have c5 := HO1.out.cell (k := 5) (show _ = some (.bool st.c) from rfl); have c2 := HO1.out.cell (k := 2) (show _ = some (.int .i64 st.depth) from rfl); skip; clear hu))
    | (go_at_call 33; ((with_reducible refine (HQ.out _).mono ?_); rintro e w7 ⟨rfl, rfl⟩))
    | (go_at_call 32; ((with_reducible refine (HCl.out _).mono ?_); rintro e w7 ⟨rfl, rfl⟩))
    | (at_builtin; (obtain ⟨i0, hi0, hz0, hz1, hz2⟩ := info_parts infoEvent; have ho := HO1.out.row; unfold RowE at ho; refine wpList_append_own _ rfl _ _ 30 rfl w0.heap.size 46 i0 (.agg #[.int .u8 0, .int .u8 0, .int .i64 0, .int .i64 0]) 4 24 Tryz.underlying30 hi0 hz0 hz1 hz2 rfl (by decide) _ _ _ rfl (ho.alloc _) _ 1 1 [.int .u8 3, .int .u8 16, .int .i64 (p : Nat), .int .i64 (n : Nat)] rfl rfl ?c1 ?c2 ?c3 ?c4 ?c5 ?_)))
  case c1 =>
    intro jj u hj
    match jj, hj with
    | 0, hj => simp at hj; subst hj; simp [Addr.add, go_sem]
    | 1, hj => simp at hj; subst hj; simp [Addr.add, go_sem]
    | 2, hj => simp at hj; subst hj; simp [Addr.add, go_sem]
    | 3, hj => simp at hj; subst hj; simp [Addr.add, go_sem]
  case c2 => intro u hu; simp at hu; rcases hu with rfl | rfl | rfl | rfl <;> rfl
  case c3 => have := HL.out; unfold maxLen; omega
  case c4 => have := HL.out; omega
  case c5 => have := Below.size HO1.out.up; rw [World.size_alloc]; omega
  intro v5 w5 hown5 hgrow5 _
  obtain ⟨A5, q5, rfl⟩ := own_slice hown5
  have hbx := HO1.out.mid hgrow5
  have x0 : w5.cell? ⟨bo, 0, none⟩ = some v := cellOf hbx rfl
  have y0 : w5.frozen? ⟨bo, 0, none⟩ = false := frozenOf hbx
  have x2 : w5.cell? ⟨bo, 2, none⟩ = some (.int .i64 (st.depth)) := cellOf hbx rfl
  have x4 : w5.cell? ⟨bo, 4, none⟩ = some (.bool st.s) := cellOf hbx rfl
  have y4 : w5.frozen? ⟨bo, 4, none⟩ = false := frozenOf hbx
  have x5 : w5.cell? ⟨bo, 5, none⟩ = some (.bool st.c) := cellOf hbx rfl
  have y5 : w5.frozen? ⟨bo, 5, none⟩ = false := frozenOf hbx
  have HO2 := Lib.hid (HO1.out.app hown5 hgrow5)
  clear hown5 hgrow5 hbx ho
  go_wp2
  exact HK.out _ _ _ ⟨rfl, rfl, rfl, rfl, rfl, rfl⟩ ((HO2.out.set (k := 4) (u := .bool true) (st' := ⟨st.mark, st.depth, st.j, true, st.c⟩) rfl).set (k := 5) (u := .bool false) (st' := ⟨st.mark, st.depth, st.j, true, false⟩) rfl)
set_option maxRecDepth 1000000 in
set_option maxHeartbeats 8000000 in
theorem case_goes2 (w0 W : World) (t : ByteArray) (p bo br : Nat) (v : Value) (es : List PEv) (st : PSt) (hp : p < t.size) (hs : (t.size : Int) ≤ 1000000) (n : Nat) (hN : p + (clo (quo st.mark) ((bl t).drop p)).1 = n) (hk : (clo (quo st.mark) ((bl t).drop p)).2 = 1) (hm2 : 2 < st.mark) (hl : es.length ≤ 1000000) (HO : Hid (OutAt w0 W bo br v es st)) (K : Act → World → Prop) (Q0 : Exit → Act → World → Prop)
    (hK : ∀ (a : Act) (W' : World) (v' : Value), Fr a t bo br (n) → OutAt w0 W' bo br v' (es ++ [⟨16, p, n⟩]) (⟨st.mark, st.depth, st.j, true, false⟩) → K a W') (u0 u1 u2 u3 u4 u5 u6 u7 u12 u13 u14 u15 u16 u17 u18 u19 u20 u21 u22 u23 u24 u25 u26 u27 u28 u29 u30 u31 u32 u33 u34 u35 u36 u37 u38 u39 u40 u41 u42 u43 u44 u45 u46 u47 u48 u49 u50 u51 u52 u53 u54 u55 u56 u57 u58 u59 u60 u61 u62 u63 u64 u65 u66 u67 u68 u69 u70 u71 u72 u73 u74 u75 u76 u77 u78 u79 u80 u81 u82 u83 u84 u85 u86 u87 u88 u89 u90 u91 u92 u93 u94 u95 u96 u97 u98 u99 u100 u101 u102 u103 u104 u105 u106 u107 u108 u109 u110 u111 u112 u113 u114 u115 u116 u117 u118 u119 u120 u121 u122 u123 u124 u125 u126 u127 u128 u129 u130 u131 u132 u133 u134 u135 u136 u137 u138 u139 u140 u141 u142 u143 u144 u145 u146 u147 u148 u149 u150 u151 u152 u153 u154 u155 u156 u157 u158 u159 u160 u161 u162 u163 u164 u165 u166 u167 u168 u169 u170 u171 u172 u173 u174 u175 u176 u177 u178 u179 u180 u181 u182 u183 u184 u185 u186 u187 u188 u189 u190 u191 u192 u193 u194 u195 u196 u197 u198 u199 u200 u201 u202 u203 u204 u205 u206 u207 u208 u209 u210 u211 u212 u213 u214 u215 u216 u217 u218 u219 u220 u221 u222 u223 u224 u225 u226 u227 u228 u229 u230 u231 u232 u233 u234 u235 u236 u237 u238 u239 u240 u241 u242 u243 u244 u245 u246 u247 u248 u249 u250 u251 u252 u253 u254 u255 u256 u257 u258 u259 u260 u261 : Value) :
    Code.wp Tryz.prog scanBody (Exit.then K Q0) ⟨(u0 :: u1 :: u2 :: u3 :: u4 :: u5 :: u6 :: u7 :: (Value.pointer (some ⟨br, 0, none⟩)) :: (Value.string t) :: (Value.pointer (some ⟨bo, 0, none⟩)) :: (Value.int .i64 (p : Nat)) :: u12 :: u13 :: u14 :: u15 :: u16 :: u17 :: u18 :: u19 :: u20 :: u21 :: u22 :: u23 :: u24 :: u25 :: u26 :: u27 :: u28 :: u29 :: u30 :: u31 :: u32 :: u33 :: u34 :: u35 :: u36 :: u37 :: u38 :: u39 :: u40 :: u41 :: u42 :: u43 :: u44 :: u45 :: u46 :: u47 :: u48 :: u49 :: u50 :: u51 :: u52 :: u53 :: u54 :: u55 :: u56 :: u57 :: u58 :: u59 :: u60 :: u61 :: u62 :: u63 :: u64 :: u65 :: u66 :: u67 :: u68 :: u69 :: u70 :: u71 :: u72 :: u73 :: u74 :: u75 :: u76 :: u77 :: u78 :: u79 :: u80 :: u81 :: u82 :: u83 :: u84 :: u85 :: u86 :: u87 :: u88 :: u89 :: u90 :: u91 :: u92 :: u93 :: u94 :: u95 :: u96 :: u97 :: u98 :: u99 :: u100 :: u101 :: u102 :: u103 :: u104 :: u105 :: u106 :: u107 :: u108 :: u109 :: u110 :: u111 :: u112 :: u113 :: u114 :: u115 :: u116 :: u117 :: u118 :: u119 :: u120 :: u121 :: u122 :: u123 :: u124 :: u125 :: u126 :: u127 :: u128 :: u129 :: u130 :: u131 :: u132 :: u133 :: u134 :: u135 :: u136 :: u137 :: u138 :: u139 :: u140 :: u141 :: u142 :: u143 :: u144 :: u145 :: u146 :: u147 :: u148 :: u149 :: u150 :: u151 :: u152 :: u153 :: u154 :: u155 :: u156 :: u157 :: u158 :: u159 :: u160 :: u161 :: u162 :: u163 :: u164 :: u165 :: u166 :: u167 :: u168 :: u169 :: u170 :: u171 :: u172 :: u173 :: u174 :: u175 :: u176 :: u177 :: u178 :: u179 :: u180 :: u181 :: u182 :: u183 :: u184 :: u185 :: u186 :: u187 :: u188 :: u189 :: u190 :: u191 :: u192 :: u193 :: u194 :: u195 :: u196 :: u197 :: u198 :: u199 :: u200 :: u201 :: u202 :: u203 :: u204 :: u205 :: u206 :: u207 :: u208 :: u209 :: u210 :: u211 :: u212 :: u213 :: u214 :: u215 :: u216 :: u217 :: u218 :: u219 :: u220 :: u221 :: u222 :: u223 :: u224 :: u225 :: u226 :: u227 :: u228 :: u229 :: u230 :: u231 :: u232 :: u233 :: u234 :: u235 :: u236 :: u237 :: u238 :: u239 :: u240 :: u241 :: u242 :: u243 :: u244 :: u245 :: u246 :: u247 :: u248 :: u249 :: u250 :: u251 :: u252 :: u253 :: u254 :: u255 :: u256 :: u257 :: u258 :: u259 :: u260 :: u261 :: []).toArray, []⟩ W := by
  conv => arg 2; whnf
  have HB := Lib.hid (fun W' => begins_any t p W' hs (Nat.le_of_lt hp))
  obtain ⟨r1, hr1⟩ : ∃ r1, (begL ((bl t).drop p)).1 = r1 := ⟨_, rfl⟩
  obtain ⟨r2, hr2⟩ : ∃ r2, begE p (begL ((bl t).drop p)) = r2 := ⟨_, rfl⟩
  rw [hr1, hr2] at HB
  have HCl := Lib.hid (fun W => close_any t (quoB st.mark) p W hs (by have := quoB_le st.mark; omega) (Nat.le_of_lt hp))
  have HQ := Lib.hid (fun W => quotes_any st.mark W)
  rw [quoB_bl, hN, hk] at HCl
  rw [show ((1 : Nat) : Int) = 1 from rfl] at HCl
  have r0 : ((st.mark : Int) == 0) = false := beq_eq_false_iff_ne.2 (by omega)
  have r0' : ¬ (st.mark : Int) = 0 := by omega
  have l2 : ¬ (st.mark : Int) ≤ 2 := by omega
  have l2d : decide ((st.mark : Int) ≤ 2) = false := decide_eq_false (by omega)
  have l3 : (2 : Int) < st.mark := by omega
  have p0 : (0 : Int) ≤ p := by omega
  have p1 : (p : Int) < t.size := by omega
  have e0 : IntKind.i64.wrap ((p : Int) + 1) = (p : Int) + 1 := IntWalk.i64_in _ (by omega)
  have HK := Lib.hid hK
  have HL := Lib.hid hl
  clear hr1 hr2 hs hK hl hN hk hm2
  go_wp2_with (first
    | (go_at_call 31; ((with_reducible refine (HB.out _).mono ?_); rintro e w1 ⟨rfl, hu⟩; have HO1 := Lib.hid (HO.out.more hu); have c1 := HO1.out.cell (k := 1) (show _ = some (.int .u8 (st.mark : Nat)) from rfl); have c0 := HO1.out.cell (k := 0) (show _ = some v from rfl); have z0 := HO1.out.fr 0; have z1 := HO1.out.fr 1; have z2 := HO1.out.fr 2; have z3 := HO1.out.fr 3; have c3 := HO1.out.cell (k := 3) (show _ = some (.bool st.j) from rfl); have z4 := HO1.out.fr 4; have c4 := HO1.out.cell (k := 4) (show _ = some (.bool st.s) from rfl); have z5 := HO1.out.fr 5; have c5 := HO1.out.cell (k := 5) (show _ = some (.bool st.c) from rfl); have c2 := HO1.out.cell (k := 2) (show _ = some (.int .i64 st.depth) from rfl); skip; clear hu))
    | (go_at_call 33; ((with_reducible refine (HQ.out _).mono ?_); rintro e w7 ⟨rfl, rfl⟩))
    | (go_at_call 32; ((with_reducible refine (HCl.out _).mono ?_); rintro e w7 ⟨rfl, rfl⟩))
    | (at_builtin; (obtain ⟨i0, hi0, hz0, hz1, hz2⟩ := info_parts infoEvent; have ho := HO1.out.row; unfold RowE at ho; refine wpList_append_own _ rfl _ _ 30 rfl w0.heap.size 46 i0 (.agg #[.int .u8 0, .int .u8 0, .int .i64 0, .int .i64 0]) 4 24 Tryz.underlying30 hi0 hz0 hz1 hz2 rfl (by decide) _ _ _ rfl (ho.alloc _) _ 1 1 [.int .u8 3, .int .u8 16, .int .i64 (p : Nat), .int .i64 (n : Nat)] rfl rfl ?c1 ?c2 ?c3 ?c4 ?c5 ?_)))
  case c1 =>
    intro jj u hj
    match jj, hj with
    | 0, hj => simp at hj; subst hj; simp [Addr.add, go_sem]
    | 1, hj => simp at hj; subst hj; simp [Addr.add, go_sem]
    | 2, hj => simp at hj; subst hj; simp [Addr.add, go_sem]
    | 3, hj => simp at hj; subst hj; simp [Addr.add, go_sem]
  case c2 => intro u hu; simp at hu; rcases hu with rfl | rfl | rfl | rfl <;> rfl
  case c3 => have := HL.out; unfold maxLen; omega
  case c4 => have := HL.out; omega
  case c5 => have := Below.size HO1.out.up; rw [World.size_alloc]; omega
  intro v5 w5 hown5 hgrow5 _
  obtain ⟨A5, q5, rfl⟩ := own_slice hown5
  have hbx := HO1.out.mid hgrow5
  have x0 : w5.cell? ⟨bo, 0, none⟩ = some v := cellOf hbx rfl
  have y0 : w5.frozen? ⟨bo, 0, none⟩ = false := frozenOf hbx
  have x2 : w5.cell? ⟨bo, 2, none⟩ = some (.int .i64 (st.depth)) := cellOf hbx rfl
  have x4 : w5.cell? ⟨bo, 4, none⟩ = some (.bool st.s) := cellOf hbx rfl
  have y4 : w5.frozen? ⟨bo, 4, none⟩ = false := frozenOf hbx
  have x5 : w5.cell? ⟨bo, 5, none⟩ = some (.bool st.c) := cellOf hbx rfl
  have y5 : w5.frozen? ⟨bo, 5, none⟩ = false := frozenOf hbx
  have HO2 := Lib.hid (HO1.out.app hown5 hgrow5)
  clear hown5 hgrow5 hbx ho
  go_wp2
  exact HK.out _ _ _ ⟨rfl, rfl, rfl, rfl, rfl, rfl⟩ ((HO2.out.set (k := 4) (u := .bool true) (st' := ⟨st.mark, st.depth, st.j, true, st.c⟩) rfl).set (k := 5) (u := .bool false) (st' := ⟨st.mark, st.depth, st.j, true, false⟩) rfl)
set_option maxRecDepth 1000000 in
set_option maxHeartbeats 8000000 in
theorem case_goes3 (w0 W : World) (t : ByteArray) (p bo br : Nat) (v : Value) (es : List PEv) (st : PSt) (hp : p < t.size) (hs : (t.size : Int) ≤ 1000000) (n : Nat) (hN : p + (clo (quo st.mark) ((bl t).drop p)).1 = n) (hk : (clo (quo st.mark) ((bl t).drop p)).2 = 2) (hm2 : 2 < st.mark) (hl : es.length ≤ 1000000) (HO : Hid (OutAt w0 W bo br v es st)) (K : Act → World → Prop) (Q0 : Exit → Act → World → Prop)
    (hK : ∀ (a : Act) (W' : World) (v' : Value), Fr a t bo br (n) → OutAt w0 W' bo br v' (es ++ [⟨2, p, n⟩]) (⟨0, st.depth, st.j, true, false⟩) → K a W') (u0 u1 u2 u3 u4 u5 u6 u7 u12 u13 u14 u15 u16 u17 u18 u19 u20 u21 u22 u23 u24 u25 u26 u27 u28 u29 u30 u31 u32 u33 u34 u35 u36 u37 u38 u39 u40 u41 u42 u43 u44 u45 u46 u47 u48 u49 u50 u51 u52 u53 u54 u55 u56 u57 u58 u59 u60 u61 u62 u63 u64 u65 u66 u67 u68 u69 u70 u71 u72 u73 u74 u75 u76 u77 u78 u79 u80 u81 u82 u83 u84 u85 u86 u87 u88 u89 u90 u91 u92 u93 u94 u95 u96 u97 u98 u99 u100 u101 u102 u103 u104 u105 u106 u107 u108 u109 u110 u111 u112 u113 u114 u115 u116 u117 u118 u119 u120 u121 u122 u123 u124 u125 u126 u127 u128 u129 u130 u131 u132 u133 u134 u135 u136 u137 u138 u139 u140 u141 u142 u143 u144 u145 u146 u147 u148 u149 u150 u151 u152 u153 u154 u155 u156 u157 u158 u159 u160 u161 u162 u163 u164 u165 u166 u167 u168 u169 u170 u171 u172 u173 u174 u175 u176 u177 u178 u179 u180 u181 u182 u183 u184 u185 u186 u187 u188 u189 u190 u191 u192 u193 u194 u195 u196 u197 u198 u199 u200 u201 u202 u203 u204 u205 u206 u207 u208 u209 u210 u211 u212 u213 u214 u215 u216 u217 u218 u219 u220 u221 u222 u223 u224 u225 u226 u227 u228 u229 u230 u231 u232 u233 u234 u235 u236 u237 u238 u239 u240 u241 u242 u243 u244 u245 u246 u247 u248 u249 u250 u251 u252 u253 u254 u255 u256 u257 u258 u259 u260 u261 : Value) :
    Code.wp Tryz.prog scanBody (Exit.then K Q0) ⟨(u0 :: u1 :: u2 :: u3 :: u4 :: u5 :: u6 :: u7 :: (Value.pointer (some ⟨br, 0, none⟩)) :: (Value.string t) :: (Value.pointer (some ⟨bo, 0, none⟩)) :: (Value.int .i64 (p : Nat)) :: u12 :: u13 :: u14 :: u15 :: u16 :: u17 :: u18 :: u19 :: u20 :: u21 :: u22 :: u23 :: u24 :: u25 :: u26 :: u27 :: u28 :: u29 :: u30 :: u31 :: u32 :: u33 :: u34 :: u35 :: u36 :: u37 :: u38 :: u39 :: u40 :: u41 :: u42 :: u43 :: u44 :: u45 :: u46 :: u47 :: u48 :: u49 :: u50 :: u51 :: u52 :: u53 :: u54 :: u55 :: u56 :: u57 :: u58 :: u59 :: u60 :: u61 :: u62 :: u63 :: u64 :: u65 :: u66 :: u67 :: u68 :: u69 :: u70 :: u71 :: u72 :: u73 :: u74 :: u75 :: u76 :: u77 :: u78 :: u79 :: u80 :: u81 :: u82 :: u83 :: u84 :: u85 :: u86 :: u87 :: u88 :: u89 :: u90 :: u91 :: u92 :: u93 :: u94 :: u95 :: u96 :: u97 :: u98 :: u99 :: u100 :: u101 :: u102 :: u103 :: u104 :: u105 :: u106 :: u107 :: u108 :: u109 :: u110 :: u111 :: u112 :: u113 :: u114 :: u115 :: u116 :: u117 :: u118 :: u119 :: u120 :: u121 :: u122 :: u123 :: u124 :: u125 :: u126 :: u127 :: u128 :: u129 :: u130 :: u131 :: u132 :: u133 :: u134 :: u135 :: u136 :: u137 :: u138 :: u139 :: u140 :: u141 :: u142 :: u143 :: u144 :: u145 :: u146 :: u147 :: u148 :: u149 :: u150 :: u151 :: u152 :: u153 :: u154 :: u155 :: u156 :: u157 :: u158 :: u159 :: u160 :: u161 :: u162 :: u163 :: u164 :: u165 :: u166 :: u167 :: u168 :: u169 :: u170 :: u171 :: u172 :: u173 :: u174 :: u175 :: u176 :: u177 :: u178 :: u179 :: u180 :: u181 :: u182 :: u183 :: u184 :: u185 :: u186 :: u187 :: u188 :: u189 :: u190 :: u191 :: u192 :: u193 :: u194 :: u195 :: u196 :: u197 :: u198 :: u199 :: u200 :: u201 :: u202 :: u203 :: u204 :: u205 :: u206 :: u207 :: u208 :: u209 :: u210 :: u211 :: u212 :: u213 :: u214 :: u215 :: u216 :: u217 :: u218 :: u219 :: u220 :: u221 :: u222 :: u223 :: u224 :: u225 :: u226 :: u227 :: u228 :: u229 :: u230 :: u231 :: u232 :: u233 :: u234 :: u235 :: u236 :: u237 :: u238 :: u239 :: u240 :: u241 :: u242 :: u243 :: u244 :: u245 :: u246 :: u247 :: u248 :: u249 :: u250 :: u251 :: u252 :: u253 :: u254 :: u255 :: u256 :: u257 :: u258 :: u259 :: u260 :: u261 :: []).toArray, []⟩ W := by
  conv => arg 2; whnf
  have HB := Lib.hid (fun W' => begins_any t p W' hs (Nat.le_of_lt hp))
  obtain ⟨r1, hr1⟩ : ∃ r1, (begL ((bl t).drop p)).1 = r1 := ⟨_, rfl⟩
  obtain ⟨r2, hr2⟩ : ∃ r2, begE p (begL ((bl t).drop p)) = r2 := ⟨_, rfl⟩
  rw [hr1, hr2] at HB
  have HCl := Lib.hid (fun W => close_any t (quoB st.mark) p W hs (by have := quoB_le st.mark; omega) (Nat.le_of_lt hp))
  have HQ := Lib.hid (fun W => quotes_any st.mark W)
  rw [quoB_bl, hN, hk] at HCl
  rw [show ((2 : Nat) : Int) = 2 from rfl] at HCl
  have r0 : ((st.mark : Int) == 0) = false := beq_eq_false_iff_ne.2 (by omega)
  have r0' : ¬ (st.mark : Int) = 0 := by omega
  have l2 : ¬ (st.mark : Int) ≤ 2 := by omega
  have l2d : decide ((st.mark : Int) ≤ 2) = false := decide_eq_false (by omega)
  have l3 : (2 : Int) < st.mark := by omega
  have p0 : (0 : Int) ≤ p := by omega
  have p1 : (p : Int) < t.size := by omega
  have e0 : IntKind.i64.wrap ((p : Int) + 1) = (p : Int) + 1 := IntWalk.i64_in _ (by omega)
  have HK := Lib.hid hK
  have HL := Lib.hid hl
  clear hr1 hr2 hs hK hl hN hk hm2
  go_wp2_with (first
    | (go_at_call 31; ((with_reducible refine (HB.out _).mono ?_); rintro e w1 ⟨rfl, hu⟩; have HO1 := Lib.hid (HO.out.more hu); have c1 := HO1.out.cell (k := 1) (show _ = some (.int .u8 (st.mark : Nat)) from rfl); have c0 := HO1.out.cell (k := 0) (show _ = some v from rfl); have z0 := HO1.out.fr 0; have z1 := HO1.out.fr 1; have z2 := HO1.out.fr 2; have z3 := HO1.out.fr 3; have c3 := HO1.out.cell (k := 3) (show _ = some (.bool st.j) from rfl); have z4 := HO1.out.fr 4; have c4 := HO1.out.cell (k := 4) (show _ = some (.bool st.s) from rfl); have z5 := HO1.out.fr 5; have c5 := HO1.out.cell (k := 5) (show _ = some (.bool st.c) from rfl); have c2 := HO1.out.cell (k := 2) (show _ = some (.int .i64 st.depth) from rfl); skip; clear hu))
    | (go_at_call 33; ((with_reducible refine (HQ.out _).mono ?_); rintro e w7 ⟨rfl, rfl⟩))
    | (go_at_call 32; ((with_reducible refine (HCl.out _).mono ?_); rintro e w7 ⟨rfl, rfl⟩))
    | (at_builtin; (have HO1 := Lib.hid (HO1.out.set (k := 1) (st' := ⟨0, st.depth, st.j, st.s, st.c⟩) (u := .int .u8 0) rfl); obtain ⟨i0, hi0, hz0, hz1, hz2⟩ := info_parts infoEvent; have ho := HO1.out.row; unfold RowE at ho; refine wpList_append_own _ rfl _ _ 30 rfl w0.heap.size 46 i0 (.agg #[.int .u8 0, .int .u8 0, .int .i64 0, .int .i64 0]) 4 24 Tryz.underlying30 hi0 hz0 hz1 hz2 rfl (by decide) _ _ _ rfl (ho.alloc _) _ 1 1 [.int .u8 3, .int .u8 2, .int .i64 (p : Nat), .int .i64 (n : Nat)] rfl rfl ?c1 ?c2 ?c3 ?c4 ?c5 ?_)))
  case c1 =>
    intro jj u hj
    match jj, hj with
    | 0, hj => simp at hj; subst hj; simp [Addr.add, go_sem]
    | 1, hj => simp at hj; subst hj; simp [Addr.add, go_sem]
    | 2, hj => simp at hj; subst hj; simp [Addr.add, go_sem]
    | 3, hj => simp at hj; subst hj; simp [Addr.add, go_sem]
  case c2 => intro u hu; simp at hu; rcases hu with rfl | rfl | rfl | rfl <;> rfl
  case c3 => have := HL.out; unfold maxLen; omega
  case c4 => have := HL.out; omega
  case c5 => have := Below.size HO1.out.up; rw [World.size_alloc]; omega
  intro v5 w5 hown5 hgrow5 _
  obtain ⟨A5, q5, rfl⟩ := own_slice hown5
  have hbx := HO1.out.mid hgrow5
  have x0 : w5.cell? ⟨bo, 0, none⟩ = some v := cellOf hbx rfl
  have y0 : w5.frozen? ⟨bo, 0, none⟩ = false := frozenOf hbx
  have x2 : w5.cell? ⟨bo, 2, none⟩ = some (.int .i64 (st.depth)) := cellOf hbx rfl
  have x4 : w5.cell? ⟨bo, 4, none⟩ = some (.bool st.s) := cellOf hbx rfl
  have y4 : w5.frozen? ⟨bo, 4, none⟩ = false := frozenOf hbx
  have x5 : w5.cell? ⟨bo, 5, none⟩ = some (.bool st.c) := cellOf hbx rfl
  have y5 : w5.frozen? ⟨bo, 5, none⟩ = false := frozenOf hbx
  have HO2 := Lib.hid (HO1.out.app hown5 hgrow5)
  clear hown5 hgrow5 hbx ho
  go_wp2
  exact HK.out _ _ _ ⟨rfl, rfl, rfl, rfl, rfl, rfl⟩ ((HO2.out.set (k := 4) (u := .bool true) (st' := ⟨0, st.depth, st.j, true, st.c⟩) rfl).set (k := 5) (u := .bool false) (st' := ⟨0, st.depth, st.j, true, false⟩) rfl)
end Go.Proofs.YtmfcapbllbfjnaaGreatDoor
