/- What has been told and what is still to be told are all, case by case. A round of the document's Scan, out of its cases. The loop of the document's Scan. -/
import Derived.Test.YtmfcapbllbfjnaaGreatDoorYCase
import Derived.Test.YtmfcapbllbfjnaaGreatDoorYAB
import Derived.Test.YtmfcapbllbfjnaaGreatDoorYCD
import Derived.Test.YtmfcapbllbfjnaaGreatDoorYCaseE
import Derived.Test.YtmfcapbllbfjnaaGreatDoorYCaseF
import Derived.Test.YtmfcapbllbfjnaaGreatDoorYGH
import Derived.Test.YtmfcapbllbfjnaaGreatDoorYCaseI
import Derived.Test.YtmfcapbllbfjnaaGreatDoorYCaseJ
namespace Go.Proofs.YtmfcapbllbfjnaaGreatDoor
open Go.RowKit

/-- What is to be told from a place on, behind what has been told. -/
def Rest (t : ByteArray) (p : Nat) (es : List PEv) (st : PSt) (R : List PEv × PSt) : Prop := (es ++ (scanC p ((bl t).drop p) st).1, (scanC p ((bl t).drop p) st).2) = R
/-- What a round leaves. -/
structure Nx (t : ByteArray) (p : Nat) (p' : Nat) (es' : List PEv) (st' : PSt) (R : List PEv × PSt) : Prop where
  rest : Rest t p' es' st' R
  ok : StOk st'
  lt : p < p'
  le : p' ≤ t.size
  few : es'.length ≤ p'
theorem nx_none {t : ByteArray} {p : Nat} {st : PSt} {es : List PEv} {R : List PEv × PSt} (hp : p < t.size) (hst : StOk st) (hl : es.length ≤ p) (h : Rest t p es st R) (ht : tokL st.mark st.depth ((bl t).drop p) = none) : Nx t p (p + 1) es st R := by
  refine ⟨?_, hst, by omega, by omega, by omega⟩
  unfold Rest at h ⊢
  have hd := bl_drop hp
  rw [hd] at ht h
  rw [scanC_blank ht] at h
  exact h
theorem nx_tok {t : ByteArray} {p : Nat} {st st2 : PSt} {es : List PEv} {R : List PEv × PSt} {kd q n mk : Nat} {dp : Int} {jn : Bool} (hst : StOk st) (hl : es.length ≤ p) (h : Rest t p es st R) (hp : p < t.size) (ht : tokL st.mark st.depth ((bl t).drop p) = some ⟨kd, n, mk, dp, jn⟩) (hq : q = p + n) (h2 : aft st ⟨kd, n, mk, dp, jn⟩ ((bl t).drop p) = st2) : Nx t p q (es ++ [⟨kd, p, q⟩]) st2 R := by
  have hk := tokL_ok ht hst.mark hst.d0 hst.d1
  have hpos := hk.pos
  have hle := hk.len
  rw [List.length_drop, bl_len] at hle
  subst hq h2
  refine ⟨?_, aft_ok hst ht, ?_, ?_, by rw [List.length_append, List.length_singleton]; show _ ≤ p + n; exact Nat.le_trans (Nat.add_le_add_right hl 1) (Nat.add_le_add_left hpos p)⟩
  · unfold Rest at h ⊢
    rw [scanC_tok hst ht, List.drop_drop] at h
    rw [← h, List.append_assoc]
    rfl
  · show p < p + n
    exact Nat.lt_add_of_pos_right hpos
  · show p + n ≤ t.size
    have : n ≤ t.size - p := hle
    omega
theorem txt0 {c : Nat} {l : List Nat} (h : isBl c = true ∨ c = 35 ∨ c = 92 ∨ (begL l).1 = 0) : isTxt 0 c l = false := by
  unfold isTxt
  rcases h with h | h | h | h <;> simp [h]
theorem txt1 {c : Nat} {l : List Nat} (h1 : isBl c = false) (h2 : c ≠ 35) (h3 : c ≠ 92) (h4 : (begL l).1 ≠ 0) : isTxt 0 c l = true := by
  unfold isTxt
  simp [h1, h2, h3, h4]
theorem txtm {m c : Nat} {l : List Nat} (h : m ≠ 0) : isTxt m c l = true := by
  unfold isTxt
  simp [h]
theorem bl_no {c : Nat} (h : c ≠ 32 ∧ c ≠ 9 ∧ c ≠ 12 ∧ c ≠ 13) : isBl c = false := by
  unfold isBl
  simp [h]
theorem tk_cons (m : Nat) (d : Int) (c : Nat) (r : List Nat) : tokL m d (c::r) =
    if isTxt m c (c::r) = true then some (textL m d (c::r))
    else if isBl c = true then none
    else if c = 35 then some ⟨18, r.length + 1, 0, d, false⟩
    else if c = 92 then some ⟨if r = [] then 19 else 2, 1, 0, d, decide (r = [])⟩
    else if letN c = true then some ⟨13, namT r + 1, 0, d, false⟩
    else if (digN c || (c == 46 && digH r)) = true then some ⟨14, numL (c::r), 0, d, false⟩
    else if 0 < opL (c::r) then some (opTok d c (c::r))
    else some ⟨2, 1, 0, d, false⟩ := rfl
/-- The text of an operator is a colon. -/
theorem col_iff {t : ByteArray} {p n : Nat} : (t.extract p (p + n)).toList = [58] ↔ ((bl t).drop p).take n = [58] := by
  have e : bl (t.extract p (p + n)) = ((bl t).drop p).take n := by rw [bl_extract, List.drop_take, Nat.add_sub_cancel_left]
  rw [← e]
  constructor
  · intro h
    unfold bl
    rw [← Lib.toList_data, h]
    rfl
  · intro h
    have h2 : bl (t.extract p (p + n)) = bl ⟨#[58]⟩ := h
    rw [bl_inj h2, Lib.toList_data]
theorem take_head {c n : Nat} {r : List Nat} (h : c ≠ 58) : ((c::r).take n == [58]) = false := by
  rw [beq_eq_false_iff_ne]
  cases n with
  | zero => simp
  | succ n => rw [List.take_succ_cons]; intro e; injection e with e; exact h e
theorem aft_leaf {st : PSt} {kd n mk : Nat} {dp : Int} {l : List Nat} (h18 : kd ≠ 18) (h19 : kd ≠ 19) (h17 : kd ≠ 17) : aft st ⟨kd, n, mk, dp, false⟩ l = ⟨mk, dp, st.j, true, false⟩ := by
  unfold aft
  simp [h18, h19, h17]
theorem aft_op {st : PSt} {n mk : Nat} {dp : Int} {l : List Nat} : aft st ⟨17, n, mk, dp, false⟩ l = ⟨mk, dp, st.j, true, l.take n == [58] && dp == 0⟩ := by
  unfold aft
  simp
end Go.Proofs.YtmfcapbllbfjnaaGreatDoor

namespace Go.Proofs.YtmfcapbllbfjnaaGreatDoor
open Go.RowKit

theorem opL_46 (r : List Nat) : 0 < opL (46::r) := by
  unfold opL
  split
  · omega
  · split
    · omega
    · rw [if_pos (by simp [op1, one_pre])]
      omega
set_option maxRecDepth 1000000 in
set_option maxHeartbeats 8000000 in
theorem round11 (w0 W : World) (t : ByteArray) (p bo br : Nat) (v : Value) (es : List PEv) (st : PSt) (R : List PEv × PSt) (hp : p < t.size) (hs : (t.size : Int) ≤ 1000000) (hst : StOk st) (hl : es.length ≤ p) (hR : Rest t p es st R) (HO : Hid (OutAt w0 W bo br v es st)) (K : Act → World → Prop) (Q0 : Exit → Act → World → Prop)
    (hK : ∀ (a : Act) (W' : World) (v' : Value) (p' : Nat) (es' : List PEv) (st' : PSt), Fr a t bo br p' → OutAt w0 W' bo br v' es' st' → Nx t p p' es' st' R → K a W') (u0 u1 u2 u3 u4 u5 u6 u7 u12 u13 u14 u15 u16 u17 u18 u19 u20 u21 u22 u23 u24 u25 u26 u27 u28 u29 u30 u31 u32 u33 u34 u35 u36 u37 u38 u39 u40 u41 u42 u43 u44 u45 u46 u47 u48 u49 u50 u51 u52 u53 u54 u55 u56 u57 u58 u59 u60 u61 u62 u63 u64 u65 u66 u67 u68 u69 u70 u71 u72 u73 u74 u75 u76 u77 u78 u79 u80 u81 u82 u83 u84 u85 u86 u87 u88 u89 u90 u91 u92 u93 u94 u95 u96 u97 u98 u99 u100 u101 u102 u103 u104 u105 u106 u107 u108 u109 u110 u111 u112 u113 u114 u115 u116 u117 u118 u119 u120 u121 u122 u123 u124 u125 u126 u127 u128 u129 u130 u131 u132 u133 u134 u135 u136 u137 u138 u139 u140 u141 u142 u143 u144 u145 u146 u147 u148 u149 u150 u151 u152 u153 u154 u155 u156 u157 u158 u159 u160 u161 u162 u163 u164 u165 u166 u167 u168 u169 u170 u171 u172 u173 u174 u175 u176 u177 u178 u179 u180 u181 u182 u183 u184 u185 u186 u187 u188 u189 u190 u191 u192 u193 u194 u195 u196 u197 u198 u199 u200 u201 u202 u203 u204 u205 u206 u207 u208 u209 u210 u211 u212 u213 u214 u215 u216 u217 u218 u219 u220 u221 u222 u223 u224 u225 u226 u227 u228 u229 u230 u231 u232 u233 u234 u235 u236 u237 u238 u239 u240 u241 u242 u243 u244 u245 u246 u247 u248 u249 u250 u251 u252 u253 u254 u255 u256 u257 u258 u259 u260 u261 : Value) :
    Code.wp Tryz.prog scanBody (Exit.then K Q0) ⟨(u0::u1::u2::u3::u4::u5::u6::u7::(Value.pointer (some ⟨br, 0, none⟩))::(Value.string t)::(Value.pointer (some ⟨bo, 0, none⟩))::(Value.int .i64 (p : Nat))::u12::u13::u14::u15::u16::u17::u18::u19::u20::u21::u22::u23::u24::u25::u26::u27::u28::u29::u30::u31::u32::u33::u34::u35::u36::u37::u38::u39::u40::u41::u42::u43::u44::u45::u46::u47::u48::u49::u50::u51::u52::u53::u54::u55::u56::u57::u58::u59::u60::u61::u62::u63::u64::u65::u66::u67::u68::u69::u70::u71::u72::u73::u74::u75::u76::u77::u78::u79::u80::u81::u82::u83::u84::u85::u86::u87::u88::u89::u90::u91::u92::u93::u94::u95::u96::u97::u98::u99::u100::u101::u102::u103::u104::u105::u106::u107::u108::u109::u110::u111::u112::u113::u114::u115::u116::u117::u118::u119::u120::u121::u122::u123::u124::u125::u126::u127::u128::u129::u130::u131::u132::u133::u134::u135::u136::u137::u138::u139::u140::u141::u142::u143::u144::u145::u146::u147::u148::u149::u150::u151::u152::u153::u154::u155::u156::u157::u158::u159::u160::u161::u162::u163::u164::u165::u166::u167::u168::u169::u170::u171::u172::u173::u174::u175::u176::u177::u178::u179::u180::u181::u182::u183::u184::u185::u186::u187::u188::u189::u190::u191::u192::u193::u194::u195::u196::u197::u198::u199::u200::u201::u202::u203::u204::u205::u206::u207::u208::u209::u210::u211::u212::u213::u214::u215::u216::u217::u218::u219::u220::u221::u222::u223::u224::u225::u226::u227::u228::u229::u230::u231::u232::u233::u234::u235::u236::u237::u238::u239::u240::u241::u242::u243::u244::u245::u246::u247::u248::u249::u250::u251::u252::u253::u254::u255::u256::u257::u258::u259::u260::u261::[]).toArray, []⟩ W := by
  have hl6 : es.length ≤ 1000000 := by omega
  have hd := bl_drop hp
  have hlen : ((bl t).drop p).length = t.size - p := by rw [List.length_drop, bl_len]
  obtain ⟨c, hc⟩ : ∃ c, bt t p = c := ⟨_, rfl⟩
  rw [hc] at hd
  by_cases hm : st.mark = 0
  case neg =>
    obtain ⟨xn, xk, hx⟩ : ∃ xn xk, clo (quo st.mark) ((bl t).drop p) = (xn, xk) := ⟨_, _, rfl⟩
    have hx2 := (clo_le (quo st.mark) (quo_len _).1 ((bl t).drop p)).2.2.2
    rw [hx] at hx2
    dsimp only at hx2
    have hN : p + (clo (quo st.mark) ((bl t).drop p)).1 = p + xn := by rw [hx]
    have hk : (clo (quo st.mark) ((bl t).drop p)).2 = xk := by rw [hx]
    have ht0 : tokL st.mark st.depth ((bl t).drop p) = some (if xk = 0 then ⟨16, xn, 0, st.depth, false⟩ else if st.mark ≤ 2 ∨ xk = 1 then ⟨16, xn, st.mark, st.depth, false⟩ else ⟨2, xn, 0, st.depth, false⟩) := by
      rw [hd, tk_cons, if_pos (txtm hm), ← hd]
      unfold textL
      rw [if_neg hm, if_neg hm, if_neg hm]
      dsimp only
      rw [List.drop_zero, hx]
      dsimp only
      rw [Nat.zero_add]
    by_cases k0 : xk = 0
    · subst k0
      have ht := ht0
      rw [if_pos rfl] at ht
      apply case_goes0 w0 W t p bo br v es st hp hs hm (p + xn) hN hk hl6 HO K Q0 (fun a W' v' hF hO => hK a W' v' (p + xn) (es ++ [⟨16, p, p + xn⟩]) (⟨0, st.depth, st.j, true, false⟩) hF hO (nx_tok hst hl hR hp ht (rfl) (aft_leaf (by omega) (by omega) (by omega))))
    by_cases m2 : st.mark ≤ 2
    · have ht := ht0
      rw [if_neg k0, if_pos (.inl m2)] at ht
      apply case_goes1 w0 W t p bo br v es st hp hs hm (p + xn) xk hN hk k0 m2 hl6 HO K Q0 (fun a W' v' hF hO => hK a W' v' (p + xn) (es ++ [⟨16, p, p + xn⟩]) (⟨st.mark, st.depth, st.j, true, false⟩) hF hO (nx_tok hst hl hR hp ht (rfl) (aft_leaf (by omega) (by omega) (by omega))))
    by_cases k1 : xk = 1
    · subst k1
      have ht := ht0
      rw [if_neg (by omega), if_pos (.inr rfl)] at ht
      apply case_goes2 w0 W t p bo br v es st hp hs (p + xn) hN hk (by omega) hl6 HO K Q0 (fun a W' v' hF hO => hK a W' v' (p + xn) (es ++ [⟨16, p, p + xn⟩]) (⟨st.mark, st.depth, st.j, true, false⟩) hF hO (nx_tok hst hl hR hp ht (rfl) (aft_leaf (by omega) (by omega) (by omega))))
    · obtain rfl : xk = 2 := by omega
      have ht := ht0
      rw [if_neg (by omega), if_neg (by omega)] at ht
      apply case_goes3 w0 W t p bo br v es st hp hs (p + xn) hN hk (by omega) hl6 HO K Q0 (fun a W' v' hF hO => hK a W' v' (p + xn) (es ++ [⟨2, p, p + xn⟩]) (⟨0, st.depth, st.j, true, false⟩) hF hO (nx_tok hst hl hR hp ht (rfl) (aft_leaf (by omega) (by omega) (by omega))))
  by_cases c32 : c = 32
  · subst c32
    have ht : tokL st.mark st.depth ((bl t).drop p) = none := by rw [hd, hm, tk_cons, if_neg (by rw [txt0 (.inl rfl)]; exact Bool.false_ne_true), if_pos (show isBl 32 = true from rfl)]
    apply case_b32 w0 W t p bo br v es st hp hs hc hm hl6 HO K Q0 (fun a W' hF hO => hK a W' v (p + 1) es st hF hO (nx_none hp hst hl hR ht))
  by_cases c9 : c = 9
  · subst c9
    have ht : tokL st.mark st.depth ((bl t).drop p) = none := by rw [hd, hm, tk_cons, if_neg (by rw [txt0 (.inl rfl)]; exact Bool.false_ne_true), if_pos (show isBl 9 = true from rfl)]
    apply case_b9 w0 W t p bo br v es st hp hs hc hm hl6 HO K Q0 (fun a W' hF hO => hK a W' v (p + 1) es st hF hO (nx_none hp hst hl hR ht))
  by_cases c12 : c = 12
  · subst c12
    have ht : tokL st.mark st.depth ((bl t).drop p) = none := by rw [hd, hm, tk_cons, if_neg (by rw [txt0 (.inl rfl)]; exact Bool.false_ne_true), if_pos (show isBl 12 = true from rfl)]
    apply case_b12 w0 W t p bo br v es st hp hs hc hm hl6 HO K Q0 (fun a W' hF hO => hK a W' v (p + 1) es st hF hO (nx_none hp hst hl hR ht))
  by_cases c13 : c = 13
  · subst c13
    have ht : tokL st.mark st.depth ((bl t).drop p) = none := by rw [hd, hm, tk_cons, if_neg (by rw [txt0 (.inl rfl)]; exact Bool.false_ne_true), if_pos (show isBl 13 = true from rfl)]
    apply case_b13 w0 W t p bo br v es st hp hs hc hm hl6 HO K Q0 (fun a W' hF hO => hK a W' v (p + 1) es st hF hO (nx_none hp hst hl hR ht))
  have hb0 : isBl c = false := bl_no ⟨c32, c9, c12, c13⟩
  have hb0' : ¬ isBl c = true := by rw [hb0]; exact Bool.false_ne_true
  have hlr : ((bl t).drop (p + 1)).length = t.size - (p + 1) := by rw [List.length_drop, bl_len]
  by_cases c35 : c = 35
  · subst c35
    have ht : tokL st.mark st.depth ((bl t).drop p) = some ⟨18, ((bl t).drop (p + 1)).length + 1, 0, st.depth, false⟩ := by rw [hd, hm, tk_cons, if_neg (by rw [txt0 (.inr (.inl rfl))]; exact Bool.false_ne_true), if_neg hb0', if_pos rfl]
    apply case_comment w0 W t p bo br v es st hp hs hc hm hl6 HO K Q0 (fun a W' v' hF hO => hK a W' v' (t.size) (es ++ [⟨18, p, t.size⟩]) (st) hF hO (nx_tok hst hl hR hp ht (by rw [hlr]; omega) (by unfold aft; obtain ⟨m, d, j, s, c⟩ := st; simp at hm ⊢; exact hm.symm)))
  by_cases c92 : c = 92
  · subst c92
    have ht0 : tokL st.mark st.depth ((bl t).drop p) = some ⟨if (bl t).drop (p + 1) = [] then 19 else 2, 1, 0, st.depth, decide ((bl t).drop (p + 1) = [])⟩ := by rw [hd, hm, tk_cons, if_neg (by rw [txt0 (.inr (.inr (.inl rfl)))]; exact Bool.false_ne_true), if_neg hb0', if_neg (by omega), if_pos rfl]
    by_cases he : p + 1 = t.size
    · have hr : (bl t).drop (p + 1) = [] := bl_end (by omega)
      have ht := ht0
      rw [if_pos hr, decide_eq_true hr] at ht
      apply case_join w0 W t p bo br v es st hp hs hc hm he hl6 HO K Q0 (fun a W' v' hF hO => hK a W' v' (p + 1) (es ++ [⟨19, p, p + 1⟩]) (⟨st.mark, st.depth, true, st.s, st.c⟩) hF hO (nx_tok hst hl hR hp ht (rfl) (by unfold aft; simp [hm])))
    · have hr : ¬ (bl t).drop (p + 1) = [] := by intro e; rw [e] at hlr; simp at hlr; omega
      have ht := ht0
      rw [if_neg hr, decide_eq_false hr] at ht
      apply case_slash w0 W t p bo br v es st hp hs hc hm he hl6 HO K Q0 (fun a W' v' hF hO => hK a W' v' (p + 1) (es ++ [⟨2, p, p + 1⟩]) (⟨st.mark, st.depth, st.j, true, false⟩) hF hO (nx_tok hst hl hR hp ht (rfl) (by rw [aft_leaf (by omega) (by omega) (by omega), hm])))
  have hn : c ≠ 32 ∧ c ≠ 9 ∧ c ≠ 12 ∧ c ≠ 13 ∧ c ≠ 35 ∧ c ≠ 92 := ⟨c32, c9, c12, c13, c35, c92⟩
  by_cases hb : (begL ((bl t).drop p)).1 = 0
  case neg =>
    obtain ⟨r, hr⟩ : ∃ r, (begL ((bl t).drop p)).1 = r := ⟨_, rfl⟩
    obtain ⟨k, hkk⟩ : ∃ k, (begL ((bl t).drop p)).2 = k := ⟨_, rfl⟩
    have hbe : begE p (begL ((bl t).drop p)) = p + k := by unfold begE; rw [if_neg hb, hkk]
    have hbl := (begL_le hb).2.1
    have hr0 : r ≠ 0 := by rw [← hr]; exact hb
    rw [hlen, hkk] at hbl
    obtain ⟨xn, xk, hx⟩ : ∃ xn xk, clo (quo r) ((bl t).drop (p + k)) = (xn, xk) := ⟨_, _, rfl⟩
    have hx2 := (clo_le (quo r) (quo_len _).1 ((bl t).drop (p + k))).2.2.2
    rw [hx] at hx2
    dsimp only at hx2
    have hN : p + k + (clo (quo r) ((bl t).drop (p + k))).1 = p + k + xn := by rw [hx]
    have hk : (clo (quo r) ((bl t).drop (p + k))).2 = xk := by rw [hx]
    have ht0 : tokL st.mark st.depth ((bl t).drop p) = some (if xk = 0 then ⟨15, k + xn, 0, st.depth, false⟩ else if r ≤ 2 ∨ xk = 1 then ⟨16, k + xn, r, st.depth, false⟩ else ⟨2, k + xn, 0, st.depth, false⟩) := by
      rw [hm, hd, tk_cons, if_pos (txt1 hb0 c35 c92 (by rw [← hd]; exact hb)), ← hd]
      unfold textL
      rw [if_pos rfl, if_pos rfl, if_pos rfl, hr, hkk]
      dsimp only
      rw [List.drop_drop, hx]
    by_cases k0 : xk = 0
    · subst k0
      have ht := ht0
      rw [if_pos rfl] at ht
      apply case_begin0 w0 W t p bo br v es st hp hs c hc hn hm r (p + k) hr hr0 hbe (by omega) (p + k + xn) hN hk hl6 HO K Q0 (fun a W' v' hF hO => hK a W' v' (p + k + xn) (es ++ [⟨15, p, p + k + xn⟩]) (⟨0, st.depth, st.j, true, false⟩) hF hO (nx_tok hst hl hR hp ht (Nat.add_assoc _ _ _) (aft_leaf (by omega) (by omega) (by omega))))
    by_cases m2 : r ≤ 2
    · have ht := ht0
      rw [if_neg k0, if_pos (.inl m2)] at ht
      apply case_begin1 w0 W t p bo br v es st hp hs c hc hn hm r (p + k) hr hr0 hbe (by omega) (p + k + xn) xk hN hk k0 m2 hl6 HO K Q0 (fun a W' v' hF hO => hK a W' v' (p + k + xn) (es ++ [⟨16, p, p + k + xn⟩]) (⟨r, st.depth, st.j, true, false⟩) hF hO (nx_tok hst hl hR hp ht (Nat.add_assoc _ _ _) (aft_leaf (by omega) (by omega) (by omega))))
    by_cases k1 : xk = 1
    · subst k1
      have ht := ht0
      rw [if_neg (by omega), if_pos (.inr rfl)] at ht
      apply case_begin2 w0 W t p bo br v es st hp hs c hc hn hm r (p + k) hr hr0 hbe (by omega) (p + k + xn) hN hk (by omega) hl6 HO K Q0 (fun a W' v' hF hO => hK a W' v' (p + k + xn) (es ++ [⟨16, p, p + k + xn⟩]) (⟨r, st.depth, st.j, true, false⟩) hF hO (nx_tok hst hl hR hp ht (Nat.add_assoc _ _ _) (aft_leaf (by omega) (by omega) (by omega))))
    · obtain rfl : xk = 2 := by omega
      have ht := ht0
      rw [if_neg (by omega), if_neg (by omega)] at ht
      apply case_begin3 w0 W t p bo br v es st hp hs c hc hn hm r (p + k) hr hr0 hbe (by omega) (p + k + xn) hN hk (by omega) hl6 HO K Q0 (fun a W' v' hF hO => hK a W' v' (p + k + xn) (es ++ [⟨2, p, p + k + xn⟩]) (⟨0, st.depth, st.j, true, false⟩) hF hO (nx_tok hst hl hR hp ht (Nat.add_assoc _ _ _) (aft_leaf (by omega) (by omega) (by omega))))
  have hb2 : (begL (c::(bl t).drop (p + 1))).1 = 0 := by rw [← hd]; exact hb
  have hx0 : ¬ isTxt 0 c (c::(bl t).drop (p + 1)) = true := by rw [txt0 (.inr (.inr (.inr hb2)))]; exact Bool.false_ne_true
  by_cases h1 : letN c = true
  · have ht : tokL st.mark st.depth ((bl t).drop p) = some ⟨13, namT ((bl t).drop (p + 1)) + 1, 0, st.depth, false⟩ := by rw [hm, hd, tk_cons, if_neg hx0, if_neg hb0', if_neg c35, if_neg c92, if_pos h1]
    apply case_name w0 W t p bo br v es st hp hs c hc hn hm hb h1 (p + 1 + namT ((bl t).drop (p + 1))) rfl hl6 HO K Q0 (fun a W' v' hF hO => hK a W' v' (p + 1 + namT ((bl t).drop (p + 1))) (es ++ [⟨13, p, p + 1 + namT ((bl t).drop (p + 1))⟩]) (⟨st.mark, st.depth, st.j, true, false⟩) hF hO (nx_tok hst hl hR hp ht (by omega) (by rw [aft_leaf (by omega) (by omega) (by omega), hm])))
  have h1' : letN c = false := Bool.eq_false_iff.2 h1
  by_cases h2 : digN c = true
  · have ht : tokL st.mark st.depth ((bl t).drop p) = some ⟨14, numL ((bl t).drop p), 0, st.depth, false⟩ := by rw [hm, hd, tk_cons, if_neg hx0, if_neg hb0', if_neg c35, if_neg c92, if_neg h1, if_pos (by rw [h2, Bool.true_or])]
    apply case_number w0 W t p bo br v es st hp hs c hc hn hm hb h1' h2 _ rfl hl6 HO K Q0 (fun a W' v' hF hO => hK a W' v' (p + numL ((bl t).drop p)) (es ++ [⟨14, p, p + numL ((bl t).drop p)⟩]) (⟨st.mark, st.depth, st.j, true, false⟩) hF hO (nx_tok hst hl hR hp ht (rfl) (by rw [aft_leaf (by omega) (by omega) (by omega), hm])))
  have h2' : digN c = false := Bool.eq_false_iff.2 h2
  have ho := opL_le ((bl t).drop p)
  rw [hlen] at ho
  by_cases c46 : c = 46
  · subst c46
    have hpos : 0 < opL ((bl t).drop p) := by rw [hd]; exact opL_46 _
    have hop : ∀ (x : Bool), digH ((bl t).drop (p + 1)) = x → tokL st.mark st.depth ((bl t).drop p) = some (if x = true then ⟨14, numL ((bl t).drop p), 0, st.depth, false⟩ else ⟨17, opL ((bl t).drop p), 0, st.depth, false⟩) := by
      intro x hx
      rw [hm, hd, tk_cons, if_neg hx0, if_neg hb0', if_neg c35, if_neg c92, if_neg h1, hx]
      cases x with
      | true => rw [if_pos (by rfl), if_pos rfl]
      | false =>
        rw [if_neg (by decide), if_neg Bool.false_ne_true, ← hd, if_pos hpos]
        unfold opTok
        rw [if_neg (by omega), if_neg (by omega)]
    by_cases hp1 : p + 1 < t.size
    · obtain ⟨x, hx⟩ : ∃ x, bt t (p + 1) = x := ⟨_, rfl⟩
      have hdh : digH ((bl t).drop (p + 1)) = digN x := by rw [bl_drop hp1, hx]; rfl
      by_cases hdx : digN x = true
      · have ht := hop true (by rw [hdh, hdx])
        rw [if_pos rfl] at ht
        apply case_point_n w0 W t p bo br v es st hp hs hc hm hb hp1 x hx hdx _ rfl hl6 HO K Q0 (fun a W' v' hF hO => hK a W' v' (p + numL ((bl t).drop p)) (es ++ [⟨14, p, p + numL ((bl t).drop p)⟩]) (⟨st.mark, st.depth, st.j, true, false⟩) hF hO (nx_tok hst hl hR hp ht (rfl) (by rw [aft_leaf (by omega) (by omega) (by omega), hm])))
      · have hdx' : digN x = false := Bool.eq_false_iff.2 hdx
        have ht := hop false (by rw [hdh, hdx'])
        rw [if_neg Bool.false_ne_true] at ht
        apply case_point_o w0 W t p bo br v es st hp hs hc hm hb hp1 x hx hdx' _ rfl hpos (by omega) (by rw [col_iff, hd]; exact beq_eq_false_iff_ne.1 (take_head (by omega))) hl6 HO K Q0 (fun a W' v' hF hO => hK a W' v' (p + opL ((bl t).drop p)) (es ++ [⟨17, p, p + opL ((bl t).drop p)⟩]) (⟨st.mark, st.depth, st.j, true, false⟩) hF hO (nx_tok hst hl hR hp ht (rfl) (by rw [aft_op, hd, take_head (by omega), hm]; rfl)))
    · have ht := hop false (by rw [bl_end (by omega)]; rfl)
      rw [if_neg Bool.false_ne_true] at ht
      apply case_point_e w0 W t p bo br v es st hp hs hc hm hb (by omega) _ rfl hpos (by omega) (by rw [col_iff, hd]; exact beq_eq_false_iff_ne.1 (take_head (by omega))) hl6 HO K Q0 (fun a W' v' hF hO => hK a W' v' (p + opL ((bl t).drop p)) (es ++ [⟨17, p, p + opL ((bl t).drop p)⟩]) (⟨st.mark, st.depth, st.j, true, false⟩) hF hO (nx_tok hst hl hR hp ht (rfl) (by rw [aft_op, hd, take_head (by omega), hm]; rfl)))
  have hg0 : (digN c || (c == 46 && digH ((bl t).drop (p + 1)))) = false := by rw [h2', beq_eq_false_iff_ne.2 c46]; rfl
  by_cases hpos : 0 < opL ((bl t).drop p)
  case neg =>
    have ht : tokL st.mark st.depth ((bl t).drop p) = some ⟨2, 1, 0, st.depth, false⟩ := by rw [hm, hd, tk_cons, if_neg hx0, if_neg hb0', if_neg c35, if_neg c92, if_neg h1, if_neg (by rw [hg0]; exact Bool.false_ne_true), ← hd, if_neg hpos]
    apply case_none w0 W t p bo br v es st hp hs c hc hn hm hb c46 h1' h2' (by omega) hl6 HO K Q0 (fun a W' v' hF hO => hK a W' v' (p + 1) (es ++ [⟨2, p, p + 1⟩]) (⟨st.mark, st.depth, st.j, true, false⟩) hF hO (nx_tok hst hl hR hp ht (rfl) (by rw [aft_leaf (by omega) (by omega) (by omega), hm])))
  have ht0 : tokL st.mark st.depth ((bl t).drop p) = some (opTok st.depth c ((bl t).drop p)) := by rw [hm, hd, tk_cons, if_neg hx0, if_neg hb0', if_neg c35, if_neg c92, if_neg h1, if_neg (by rw [hg0]; exact Bool.false_ne_true), ← hd, if_pos hpos]
  unfold opTok at ht0
  by_cases b40 : c = 40
  · subst b40
    rw [if_pos (by omega)] at ht0
    by_cases hdd : st.depth < 1048576
    · have ht := ht0
      rw [show min (st.depth + 1) 1048576 = st.depth + 1 from by omega] at ht
      apply case_open40a w0 W t p bo br v es st hp hs hc hm hb _ rfl hpos (by omega) ⟨hst.d0, hdd⟩ (by rw [col_iff, hd]; exact beq_eq_false_iff_ne.1 (take_head (by omega))) hl6 HO K Q0 (fun a W' v' hF hO => hK a W' v' (p + opL ((bl t).drop p)) (es ++ [⟨17, p, p + opL ((bl t).drop p)⟩]) (⟨st.mark, st.depth + 1, st.j, true, false⟩) hF hO (nx_tok hst hl hR hp ht (rfl) (by rw [aft_op, hd, take_head (by omega), hm]; rfl)))
    · have ht := ht0
      have hde : st.depth = 1048576 := by have := hst.d1; omega
      rw [show min (st.depth + 1) 1048576 = 1048576 from by omega] at ht
      apply case_open40b w0 W t p bo br v es st hp hs hc hm hb _ rfl hpos (by omega) hde (by rw [col_iff, hd]; exact beq_eq_false_iff_ne.1 (take_head (by omega))) hl6 HO K Q0 (fun a W' v' hF hO => hK a W' v' (p + opL ((bl t).drop p)) (es ++ [⟨17, p, p + opL ((bl t).drop p)⟩]) (⟨st.mark, 1048576, st.j, true, false⟩) hF hO (nx_tok hst hl hR hp ht (rfl) (by rw [aft_op, hd, take_head (by omega), hm]; rfl)))
  by_cases b91 : c = 91
  · subst b91
    rw [if_pos (by omega)] at ht0
    by_cases hdd : st.depth < 1048576
    · have ht := ht0
      rw [show min (st.depth + 1) 1048576 = st.depth + 1 from by omega] at ht
      apply case_open91a w0 W t p bo br v es st hp hs hc hm hb _ rfl hpos (by omega) ⟨hst.d0, hdd⟩ (by rw [col_iff, hd]; exact beq_eq_false_iff_ne.1 (take_head (by omega))) hl6 HO K Q0 (fun a W' v' hF hO => hK a W' v' (p + opL ((bl t).drop p)) (es ++ [⟨17, p, p + opL ((bl t).drop p)⟩]) (⟨st.mark, st.depth + 1, st.j, true, false⟩) hF hO (nx_tok hst hl hR hp ht (rfl) (by rw [aft_op, hd, take_head (by omega), hm]; rfl)))
    · have ht := ht0
      have hde : st.depth = 1048576 := by have := hst.d1; omega
      rw [show min (st.depth + 1) 1048576 = 1048576 from by omega] at ht
      apply case_open91b w0 W t p bo br v es st hp hs hc hm hb _ rfl hpos (by omega) hde (by rw [col_iff, hd]; exact beq_eq_false_iff_ne.1 (take_head (by omega))) hl6 HO K Q0 (fun a W' v' hF hO => hK a W' v' (p + opL ((bl t).drop p)) (es ++ [⟨17, p, p + opL ((bl t).drop p)⟩]) (⟨st.mark, 1048576, st.j, true, false⟩) hF hO (nx_tok hst hl hR hp ht (rfl) (by rw [aft_op, hd, take_head (by omega), hm]; rfl)))
  by_cases b123 : c = 123
  · subst b123
    rw [if_pos (by omega)] at ht0
    by_cases hdd : st.depth < 1048576
    · have ht := ht0
      rw [show min (st.depth + 1) 1048576 = st.depth + 1 from by omega] at ht
      apply case_open123a w0 W t p bo br v es st hp hs hc hm hb _ rfl hpos (by omega) ⟨hst.d0, hdd⟩ (by rw [col_iff, hd]; exact beq_eq_false_iff_ne.1 (take_head (by omega))) hl6 HO K Q0 (fun a W' v' hF hO => hK a W' v' (p + opL ((bl t).drop p)) (es ++ [⟨17, p, p + opL ((bl t).drop p)⟩]) (⟨st.mark, st.depth + 1, st.j, true, false⟩) hF hO (nx_tok hst hl hR hp ht (rfl) (by rw [aft_op, hd, take_head (by omega), hm]; rfl)))
    · have ht := ht0
      have hde : st.depth = 1048576 := by have := hst.d1; omega
      rw [show min (st.depth + 1) 1048576 = 1048576 from by omega] at ht
      apply case_open123b w0 W t p bo br v es st hp hs hc hm hb _ rfl hpos (by omega) hde (by rw [col_iff, hd]; exact beq_eq_false_iff_ne.1 (take_head (by omega))) hl6 HO K Q0 (fun a W' v' hF hO => hK a W' v' (p + opL ((bl t).drop p)) (es ++ [⟨17, p, p + opL ((bl t).drop p)⟩]) (⟨st.mark, 1048576, st.j, true, false⟩) hF hO (nx_tok hst hl hR hp ht (rfl) (by rw [aft_op, hd, take_head (by omega), hm]; rfl)))
  by_cases b41 : c = 41
  · subst b41
    rw [if_neg (by omega), if_pos (by omega)] at ht0
    by_cases hdd : st.depth = 0
    · have ht := ht0
      rw [if_pos hdd, show max (st.depth - 1) 0 = 0 from by omega] at ht
      apply case_close41a w0 W t p bo br v es st hp hs hc hm hb _ rfl hpos (by omega) hdd hl6 HO K Q0 (fun a W' v' hF hO => hK a W' v' (p + opL ((bl t).drop p)) (es ++ [⟨2, p, p + opL ((bl t).drop p)⟩]) (⟨st.mark, 0, st.j, true, false⟩) hF hO (nx_tok hst hl hR hp ht (rfl) (by rw [aft_leaf (by omega) (by omega) (by omega), hm])))
    · have ht := ht0
      have hd0 := hst.d0
      rw [if_neg hdd, show max (st.depth - 1) 0 = st.depth - 1 from by omega] at ht
      apply case_close41b w0 W t p bo br v es st hp hs hc hm hb _ rfl hpos (by omega) ⟨by omega, hst.d1⟩ (by rw [col_iff, hd]; exact beq_eq_false_iff_ne.1 (take_head (by omega))) hl6 HO K Q0 (fun a W' v' hF hO => hK a W' v' (p + opL ((bl t).drop p)) (es ++ [⟨17, p, p + opL ((bl t).drop p)⟩]) (⟨st.mark, st.depth - 1, st.j, true, false⟩) hF hO (nx_tok hst hl hR hp ht (rfl) (by rw [aft_op, hd, take_head (by omega), hm]; rfl)))
  by_cases b93 : c = 93
  · subst b93
    rw [if_neg (by omega), if_pos (by omega)] at ht0
    by_cases hdd : st.depth = 0
    · have ht := ht0
      rw [if_pos hdd, show max (st.depth - 1) 0 = 0 from by omega] at ht
      apply case_close93a w0 W t p bo br v es st hp hs hc hm hb _ rfl hpos (by omega) hdd hl6 HO K Q0 (fun a W' v' hF hO => hK a W' v' (p + opL ((bl t).drop p)) (es ++ [⟨2, p, p + opL ((bl t).drop p)⟩]) (⟨st.mark, 0, st.j, true, false⟩) hF hO (nx_tok hst hl hR hp ht (rfl) (by rw [aft_leaf (by omega) (by omega) (by omega), hm])))
    · have ht := ht0
      have hd0 := hst.d0
      rw [if_neg hdd, show max (st.depth - 1) 0 = st.depth - 1 from by omega] at ht
      apply case_close93b w0 W t p bo br v es st hp hs hc hm hb _ rfl hpos (by omega) ⟨by omega, hst.d1⟩ (by rw [col_iff, hd]; exact beq_eq_false_iff_ne.1 (take_head (by omega))) hl6 HO K Q0 (fun a W' v' hF hO => hK a W' v' (p + opL ((bl t).drop p)) (es ++ [⟨17, p, p + opL ((bl t).drop p)⟩]) (⟨st.mark, st.depth - 1, st.j, true, false⟩) hF hO (nx_tok hst hl hR hp ht (rfl) (by rw [aft_op, hd, take_head (by omega), hm]; rfl)))
  by_cases b125 : c = 125
  · subst b125
    rw [if_neg (by omega), if_pos (by omega)] at ht0
    by_cases hdd : st.depth = 0
    · have ht := ht0
      rw [if_pos hdd, show max (st.depth - 1) 0 = 0 from by omega] at ht
      apply case_close125a w0 W t p bo br v es st hp hs hc hm hb _ rfl hpos (by omega) hdd hl6 HO K Q0 (fun a W' v' hF hO => hK a W' v' (p + opL ((bl t).drop p)) (es ++ [⟨2, p, p + opL ((bl t).drop p)⟩]) (⟨st.mark, 0, st.j, true, false⟩) hF hO (nx_tok hst hl hR hp ht (rfl) (by rw [aft_leaf (by omega) (by omega) (by omega), hm])))
    · have ht := ht0
      have hd0 := hst.d0
      rw [if_neg hdd, show max (st.depth - 1) 0 = st.depth - 1 from by omega] at ht
      apply case_close125b w0 W t p bo br v es st hp hs hc hm hb _ rfl hpos (by omega) ⟨by omega, hst.d1⟩ (by rw [col_iff, hd]; exact beq_eq_false_iff_ne.1 (take_head (by omega))) hl6 HO K Q0 (fun a W' v' hF hO => hK a W' v' (p + opL ((bl t).drop p)) (es ++ [⟨17, p, p + opL ((bl t).drop p)⟩]) (⟨st.mark, st.depth - 1, st.j, true, false⟩) hF hO (nx_tok hst hl hR hp ht (rfl) (by rw [aft_op, hd, take_head (by omega), hm]; rfl)))
  rw [if_neg (by omega), if_neg (by omega)] at ht0
  have ht := ht0
  by_cases hco : (t.extract p (p + opL ((bl t).drop p))).toList = [58]
  case neg =>
    apply case_opa w0 W t p bo br v es st hp hs c hc hn hm hb c46 h1' h2' _ rfl hpos (by omega) ⟨b40, b91, b123, b41, b93, b125⟩ hco hl6 HO K Q0 (fun a W' v' hF hO => hK a W' v' (p + opL ((bl t).drop p)) (es ++ [⟨17, p, p + opL ((bl t).drop p)⟩]) (⟨st.mark, st.depth, st.j, true, false⟩) hF hO (nx_tok hst hl hR hp ht (rfl) (by rw [aft_op, beq_eq_false_iff_ne.2 (fun e => hco (col_iff.2 e)), hm]; rfl)))
  have hcc := col_iff.1 hco
  by_cases hdd : st.depth = 0
  · apply case_opb w0 W t p bo br v es st hp hs c hc hn hm hb c46 h1' h2' _ rfl hpos (by omega) ⟨b40, b91, b123, b41, b93, b125⟩ hco hdd hl6 HO K Q0 (fun a W' v' hF hO => hK a W' v' (p + opL ((bl t).drop p)) (es ++ [⟨17, p, p + opL ((bl t).drop p)⟩]) (⟨st.mark, st.depth, st.j, true, true⟩) hF hO (nx_tok hst hl hR hp ht (rfl) (by rw [aft_op, hcc, hdd, hm]; rfl)))
  · apply case_opc w0 W t p bo br v es st hp hs c hc hn hm hb c46 h1' h2' _ rfl hpos (by omega) ⟨b40, b91, b123, b41, b93, b125⟩ hco hdd hl6 HO K Q0 (fun a W' v' hF hO => hK a W' v' (p + opL ((bl t).drop p)) (es ++ [⟨17, p, p + opL ((bl t).drop p)⟩]) (⟨st.mark, st.depth, st.j, true, false⟩) hF hO (nx_tok hst hl hR hp ht (rfl) (by rw [aft_op, hcc, beq_eq_false_iff_ne.2 hdd, hm]; rfl)))
end Go.Proofs.YtmfcapbllbfjnaaGreatDoor

namespace Go.Proofs.YtmfcapbllbfjnaaGreatDoor
open Go.RowKit

def mu11 (t : ByteArray) (a : Act) : Nat := match (a.tmps[11]? : Option Value) with
  | some (Value.int _ n) => t.size - n.toNat
  | _ => 0
theorem mu_fr {a : Act} {t : ByteArray} {bo br p : Nat} (h : Fr a t bo br p) : mu11 t a = t.size - p := by
  unfold mu11
  rw [h.s11]
  show t.size - (p : Int).toNat = _
  rw [Int.toNat_natCast]
theorem list_all {l : List Value} {n : Nat} (h : l.length = n) : l = (List.range n).map fun i => l.getD i undef := by
  apply List.ext_getElem
  · simp [h]
  · intro i h1 h2
    simp [List.getElem?_eq_getElem h1]
set_option maxRecDepth 1000000 in
/-- The frame, written out. -/
theorem fr_open {a : Act} {t : ByteArray} {bo br p : Nat} (h : Fr a t bo br p) : ∃ f : Nat → Value, a = ⟨(f 0::f 1::f 2::f 3::f 4::f 5::f 6::f 7::(Value.pointer (some ⟨br, 0, none⟩))::(Value.string t)::(Value.pointer (some ⟨bo, 0, none⟩))::(Value.int .i64 (p : Nat))::f 12::f 13::f 14::f 15::f 16::f 17::f 18::f 19::f 20::f 21::f 22::f 23::f 24::f 25::f 26::f 27::f 28::f 29::f 30::f 31::f 32::f 33::f 34::f 35::f 36::f 37::f 38::f 39::f 40::f 41::f 42::f 43::f 44::f 45::f 46::f 47::f 48::f 49::f 50::f 51::f 52::f 53::f 54::f 55::f 56::f 57::f 58::f 59::f 60::f 61::f 62::f 63::f 64::f 65::f 66::f 67::f 68::f 69::f 70::f 71::f 72::f 73::f 74::f 75::f 76::f 77::f 78::f 79::f 80::f 81::f 82::f 83::f 84::f 85::f 86::f 87::f 88::f 89::f 90::f 91::f 92::f 93::f 94::f 95::f 96::f 97::f 98::f 99::f 100::f 101::f 102::f 103::f 104::f 105::f 106::f 107::f 108::f 109::f 110::f 111::f 112::f 113::f 114::f 115::f 116::f 117::f 118::f 119::f 120::f 121::f 122::f 123::f 124::f 125::f 126::f 127::f 128::f 129::f 130::f 131::f 132::f 133::f 134::f 135::f 136::f 137::f 138::f 139::f 140::f 141::f 142::f 143::f 144::f 145::f 146::f 147::f 148::f 149::f 150::f 151::f 152::f 153::f 154::f 155::f 156::f 157::f 158::f 159::f 160::f 161::f 162::f 163::f 164::f 165::f 166::f 167::f 168::f 169::f 170::f 171::f 172::f 173::f 174::f 175::f 176::f 177::f 178::f 179::f 180::f 181::f 182::f 183::f 184::f 185::f 186::f 187::f 188::f 189::f 190::f 191::f 192::f 193::f 194::f 195::f 196::f 197::f 198::f 199::f 200::f 201::f 202::f 203::f 204::f 205::f 206::f 207::f 208::f 209::f 210::f 211::f 212::f 213::f 214::f 215::f 216::f 217::f 218::f 219::f 220::f 221::f 222::f 223::f 224::f 225::f 226::f 227::f 228::f 229::f 230::f 231::f 232::f 233::f 234::f 235::f 236::f 237::f 238::f 239::f 240::f 241::f 242::f 243::f 244::f 245::f 246::f 247::f 248::f 249::f 250::f 251::f 252::f 253::f 254::f 255::f 256::f 257::f 258::f 259::f 260::f 261::[]).toArray, []⟩ := by
  obtain ⟨tm, df⟩ := a
  have hd : df = [] := h.defs
  subst hd
  have hl : tm.toList.length = 262 := h.size
  have h0 := list_all hl
  have g : ∀ (i : Nat) (x : Value), tm[i]? = some x → tm.toList.getD i undef = x := fun i x hx => by
    rw [List.getD_eq_getElem?_getD, Array.getElem?_toList, hx]
    rfl
  have h8 := g 8 _ h.s8
  have h9 := g 9 _ h.s9
  have h10 := g 10 _ h.s10
  have h11 := g 11 _ h.s11
  generalize tm.toList.getD = f at h0 h8 h9 h10 h11
  refine ⟨fun i => f i undef, ?_⟩
  rw [← h8, ← h9, ← h10, ← h11]
  have h1 : tm = tm.toList.toArray := by simp
  rw [h1, h0]
  rfl
theorem loop11 (w0 : World) (t : ByteArray) (bo br : Nat) (R : List PEv × PSt) (hs : (t.size : Int) ≤ 1000000) (Q0 : Exit → Act → World → Prop)
    (hQ : ∀ (a : Act) (W' : World) (v' : Value) (p' : Nat), Fr a t bo br p' → OutAt w0 W' bo br v' R.1 R.2 → Q0 (.exit 0) a W') (a : Act) (W : World) (p : Nat) (v : Value) (es : List PEv) (st : PSt) (hF : Fr a t bo br p) (hO : OutAt w0 W bo br v es st) (hR : Rest t p es st R) (hst : StOk st) (hl : es.length ≤ p) :
    Code.wp Tryz.prog (Code.loop scanBody) Q0 a W := by
  refine wp_loop (fun a w => ∃ p v es st, Fr a t bo br p ∧ OutAt w0 w bo br v es st ∧ Rest t p es st R ∧ StOk st ∧ es.length ≤ p) (fun a _ => mu11 t a) ⟨p, v, es, st, hF, hO, hR, hst, hl⟩ ?_
  clear hF hO hR hst hl
  clear p v es st a W
  rintro a w1 ⟨p, v, es, st, hF, hO, hR, hst, hl⟩
  have hm := mu_fr hF
  by_cases hlt : p < t.size
  · obtain ⟨f, rfl⟩ := fr_open hF
    exact round11 w0 w1 t p bo br v es st R hlt hs hst hl hR (Lib.hid hO) _ _ (fun a' W' v' p' es' st' hF' hO' hN => ⟨⟨p', v', es', st', hF', hO', hN.rest, hN.ok, hN.few⟩, by rw [mu_fr hF', hm]; have := hN.lt; have := hN.le; omega⟩) (f 0) (f 1) (f 2) (f 3) (f 4) (f 5) (f 6) (f 7) (f 12) (f 13) (f 14) (f 15) (f 16) (f 17) (f 18) (f 19) (f 20) (f 21) (f 22) (f 23) (f 24) (f 25) (f 26) (f 27) (f 28) (f 29) (f 30) (f 31) (f 32) (f 33) (f 34) (f 35) (f 36) (f 37) (f 38) (f 39) (f 40) (f 41) (f 42) (f 43) (f 44) (f 45) (f 46) (f 47) (f 48) (f 49) (f 50) (f 51) (f 52) (f 53) (f 54) (f 55) (f 56) (f 57) (f 58) (f 59) (f 60) (f 61) (f 62) (f 63) (f 64) (f 65) (f 66) (f 67) (f 68) (f 69) (f 70) (f 71) (f 72) (f 73) (f 74) (f 75) (f 76) (f 77) (f 78) (f 79) (f 80) (f 81) (f 82) (f 83) (f 84) (f 85) (f 86) (f 87) (f 88) (f 89) (f 90) (f 91) (f 92) (f 93) (f 94) (f 95) (f 96) (f 97) (f 98) (f 99) (f 100) (f 101) (f 102) (f 103) (f 104) (f 105) (f 106) (f 107) (f 108) (f 109) (f 110) (f 111) (f 112) (f 113) (f 114) (f 115) (f 116) (f 117) (f 118) (f 119) (f 120) (f 121) (f 122) (f 123) (f 124) (f 125) (f 126) (f 127) (f 128) (f 129) (f 130) (f 131) (f 132) (f 133) (f 134) (f 135) (f 136) (f 137) (f 138) (f 139) (f 140) (f 141) (f 142) (f 143) (f 144) (f 145) (f 146) (f 147) (f 148) (f 149) (f 150) (f 151) (f 152) (f 153) (f 154) (f 155) (f 156) (f 157) (f 158) (f 159) (f 160) (f 161) (f 162) (f 163) (f 164) (f 165) (f 166) (f 167) (f 168) (f 169) (f 170) (f 171) (f 172) (f 173) (f 174) (f 175) (f 176) (f 177) (f 178) (f 179) (f 180) (f 181) (f 182) (f 183) (f 184) (f 185) (f 186) (f 187) (f 188) (f 189) (f 190) (f 191) (f 192) (f 193) (f 194) (f 195) (f 196) (f 197) (f 198) (f 199) (f 200) (f 201) (f 202) (f 203) (f 204) (f 205) (f 206) (f 207) (f 208) (f 209) (f 210) (f 211) (f 212) (f 213) (f 214) (f 215) (f 216) (f 217) (f 218) (f 219) (f 220) (f 221) (f 222) (f 223) (f 224) (f 225) (f 226) (f 227) (f 228) (f 229) (f 230) (f 231) (f 232) (f 233) (f 234) (f 235) (f 236) (f 237) (f 238) (f 239) (f 240) (f 241) (f 242) (f 243) (f 244) (f 245) (f 246) (f 247) (f 248) (f 249) (f 250) (f 251) (f 252) (f 253) (f 254) (f 255) (f 256) (f 257) (f 258) (f 259) (f 260) (f 261)
  · have hRR : (es, st) = R := by
      unfold Rest at hR
      rw [bl_end (by omega), scanC_nil, List.append_nil] at hR
      exact hR
    subst hRR
    obtain ⟨f, rfl⟩ := fr_open hF
    exact case_end w1 t p bo br (by omega) _ _ (fun a hFa => hQ a w1 v p hFa hO) (f 0) (f 1) (f 2) (f 3) (f 4) (f 5) (f 6) (f 7) (f 12) (f 13) (f 14) (f 15) (f 16) (f 17) (f 18) (f 19) (f 20) (f 21) (f 22) (f 23) (f 24) (f 25) (f 26) (f 27) (f 28) (f 29) (f 30) (f 31) (f 32) (f 33) (f 34) (f 35) (f 36) (f 37) (f 38) (f 39) (f 40) (f 41) (f 42) (f 43) (f 44) (f 45) (f 46) (f 47) (f 48) (f 49) (f 50) (f 51) (f 52) (f 53) (f 54) (f 55) (f 56) (f 57) (f 58) (f 59) (f 60) (f 61) (f 62) (f 63) (f 64) (f 65) (f 66) (f 67) (f 68) (f 69) (f 70) (f 71) (f 72) (f 73) (f 74) (f 75) (f 76) (f 77) (f 78) (f 79) (f 80) (f 81) (f 82) (f 83) (f 84) (f 85) (f 86) (f 87) (f 88) (f 89) (f 90) (f 91) (f 92) (f 93) (f 94) (f 95) (f 96) (f 97) (f 98) (f 99) (f 100) (f 101) (f 102) (f 103) (f 104) (f 105) (f 106) (f 107) (f 108) (f 109) (f 110) (f 111) (f 112) (f 113) (f 114) (f 115) (f 116) (f 117) (f 118) (f 119) (f 120) (f 121) (f 122) (f 123) (f 124) (f 125) (f 126) (f 127) (f 128) (f 129) (f 130) (f 131) (f 132) (f 133) (f 134) (f 135) (f 136) (f 137) (f 138) (f 139) (f 140) (f 141) (f 142) (f 143) (f 144) (f 145) (f 146) (f 147) (f 148) (f 149) (f 150) (f 151) (f 152) (f 153) (f 154) (f 155) (f 156) (f 157) (f 158) (f 159) (f 160) (f 161) (f 162) (f 163) (f 164) (f 165) (f 166) (f 167) (f 168) (f 169) (f 170) (f 171) (f 172) (f 173) (f 174) (f 175) (f 176) (f 177) (f 178) (f 179) (f 180) (f 181) (f 182) (f 183) (f 184) (f 185) (f 186) (f 187) (f 188) (f 189) (f 190) (f 191) (f 192) (f 193) (f 194) (f 195) (f 196) (f 197) (f 198) (f 199) (f 200) (f 201) (f 202) (f 203) (f 204) (f 205) (f 206) (f 207) (f 208) (f 209) (f 210) (f 211) (f 212) (f 213) (f 214) (f 215) (f 216) (f 217) (f 218) (f 219) (f 220) (f 221) (f 222) (f 223) (f 224) (f 225) (f 226) (f 227) (f 228) (f 229) (f 230) (f 231) (f 232) (f 233) (f 234) (f 235) (f 236) (f 237) (f 238) (f 239) (f 240) (f 241) (f 242) (f 243) (f 244) (f 245) (f 246) (f 247) (f 248) (f 249) (f 250) (f 251) (f 252) (f 253) (f 254) (f 255) (f 256) (f 257) (f 258) (f 259) (f 260) (f 261)
end Go.Proofs.YtmfcapbllbfjnaaGreatDoor
