/- The document's Scan: what stands ahead of its loop, and behind. -/
import Derived.Test.YtmfcapbllbfjnaaGreatDoorYNL
import Derived.Test.YtmfcapbllbfjnaaGreatDoorYRefE
namespace Go.Proofs.YtmfcapbllbfjnaaGreatDoor
open Go.RowKit

theorem out_start (w : World) (x y z u t s' : Value) (st : PSt) : OutAt w ((w.alloc (.cells #[x, y, z, u, t, s'] OT)).alloc (.cells (outA (.slice none 0 0) st) OT)) (w.heap.size + 1) w.heap.size (.slice none 0 0) [] st := by
  refine ⟨?_, ⟨x, y, z, u, t, s', ?_⟩, World.ownsRow_nil _ _ _ _, ⟨by omega, Nat.le_refl _, by omega⟩, (Up.alloc _ _).trans (Up.alloc _ _)⟩
  · have := Go.heap_alloc_new (w.alloc (.cells #[x, y, z, u, t, s'] OT)) (.cells (outA (.slice none 0 0) st) OT)
    rwa [World.size_alloc] at this
  · rw [Below.block (Up.alloc (w.alloc (.cells #[x, y, z, u, t, s'] OT)) _) w.heap.size (by rw [World.size_alloc]; omega)]
    exact Go.heap_alloc_new _ _
theorem set6 {W : World} {g : Nat} {T : TypeId} {x0 x1 x2 x3 x4 x5 a b c d e f : Value} (h : W.heap[g]? = some (.cells #[x0, x1, x2, x3, x4, x5] T)) :
    ((((((W.setCell ⟨g, 0, none⟩ a).setCell ⟨g, 1, none⟩ b).setCell ⟨g, 2, none⟩ c).setCell ⟨g, 3, none⟩ d).setCell ⟨g, 4, none⟩ e).setCell ⟨g, 5, none⟩ f).heap[g]? = some (.cells #[a, b, c, d, e, f] T) :=
  heap_setCell_same _ _ _ _ _ _ (heap_setCell_same _ _ _ _ _ _ (heap_setCell_same _ _ _ _ _ _ (heap_setCell_same _ _ _ _ _ _ (heap_setCell_same _ _ _ _ _ _ (heap_setCell_same _ _ _ _ _ _ h)))))
theorem row_apart {W : World} {B g k : Nat} {u v : Value} {es : List PEv} (h : RowE W B v es) (hg : ∀ q, v.ownBlock = some q → q ≠ g) : RowE (W.setCell ⟨g, k, none⟩ u) B v es := by
  unfold RowE at h ⊢
  refine ⟨h.1, ?_⟩
  rcases h.2 with hn | ⟨q, cap, cur, rfl, hb, hgg, rest⟩
  · exact .inl hn
  · exact .inr ⟨q, cap, cur, rfl, hb, by rw [setCell_far W g k u q (fun e => hg q rfl e.symm)]; exact hgg, rest⟩
theorem up_set {w W : World} {k : Nat} {u : Value} (h : Up w W) : Up w (W.setCell ⟨w.heap.size, k, none⟩ u) := Below.setCell (p := ⟨w.heap.size, k, none⟩) h (Nat.le_refl _) u
noncomputable def scanAll : Code := (Tryz.f19.body.getD .skip)
/-- What the document's Scan leaves. -/
def PreQ (w : World) (line : ByteArray) (a : Int) (m : Nat) (d : Int) (Q : Exit → Act → World → Prop) : Prop := ∀ (x : Act) (W' : World) (v' : Value), x.tmps[8]? = some (.pointer (some ⟨w.heap.size, 0, none⟩)) → x.defers = [] → W'.heap[w.heap.size]? = some (.cells (outA v' (scanE (bl line) a m d).2) OT) → RowE W' w.heap.size v' (scanE (bl line) a m d).1 → Up w W' → Q .ret x W'
set_option maxRecDepth 1000000 in
set_option maxHeartbeats 8000000 in
theorem pre_aaa (w : World) (line : ByteArray) (a : Int) (m : Nat) (d : Int) (hs : (line.size : Int) ≤ 100000) (hm : m ≤ 4) (hd : 0 ≤ d ∧ d ≤ 1048576) (ha : 0 ≤ a) (Q : Exit → Act → World → Prop) (hQ : PreQ w line a m d Q) (u4 u5 u6 u7 u8 u9 u10 u11 u12 u13 u14 u15 u16 u17 u18 u19 u20 u21 u22 u23 u24 u25 u26 u27 u28 u29 u30 u31 u32 u33 u34 u35 u36 u37 u38 u39 u40 u41 u42 u43 u44 u45 u46 u47 u48 u49 u50 u51 u52 u53 u54 u55 u56 u57 u58 u59 u60 u61 u62 u63 u64 u65 u66 u67 u68 u69 u70 u71 u72 u73 u74 u75 u76 u77 u78 u79 u80 u81 u82 u83 u84 u85 u86 u87 u88 u89 u90 u91 u92 u93 u94 u95 u96 u97 u98 u99 u100 u101 u102 u103 u104 u105 u106 u107 u108 u109 u110 u111 u112 u113 u114 u115 u116 u117 u118 u119 u120 u121 u122 u123 u124 u125 u126 u127 u128 u129 u130 u131 u132 u133 u134 u135 u136 u137 u138 u139 u140 u141 u142 u143 u144 u145 u146 u147 u148 u149 u150 u151 u152 u153 u154 u155 u156 u157 u158 u159 u160 u161 u162 u163 u164 u165 u166 u167 u168 u169 u170 u171 u172 u173 u174 u175 u176 u177 u178 u179 u180 u181 u182 u183 u184 u185 u186 u187 u188 u189 u190 u191 u192 u193 u194 u195 u196 u197 u198 u199 u200 u201 u202 u203 u204 u205 u206 u207 u208 u209 u210 u211 u212 u213 u214 u215 u216 u217 u218 u219 u220 u221 u222 u223 u224 u225 u226 u227 u228 u229 u230 u231 u232 u233 u234 u235 u236 u237 u238 u239 u240 u241 u242 u243 u244 u245 u246 u247 u248 u249 u250 u251 u252 u253 u254 u255 u256 u257 u258 u259 u260 u261 : Value) :
    Code.wp Tryz.prog scanAll Q ⟨((Value.string line)::(Value.int .i64 a)::(Value.int .u8 (m : Nat))::(Value.int .i64 d)::u4::u5::u6::u7::u8::u9::u10::u11::u12::u13::u14::u15::u16::u17::u18::u19::u20::u21::u22::u23::u24::u25::u26::u27::u28::u29::u30::u31::u32::u33::u34::u35::u36::u37::u38::u39::u40::u41::u42::u43::u44::u45::u46::u47::u48::u49::u50::u51::u52::u53::u54::u55::u56::u57::u58::u59::u60::u61::u62::u63::u64::u65::u66::u67::u68::u69::u70::u71::u72::u73::u74::u75::u76::u77::u78::u79::u80::u81::u82::u83::u84::u85::u86::u87::u88::u89::u90::u91::u92::u93::u94::u95::u96::u97::u98::u99::u100::u101::u102::u103::u104::u105::u106::u107::u108::u109::u110::u111::u112::u113::u114::u115::u116::u117::u118::u119::u120::u121::u122::u123::u124::u125::u126::u127::u128::u129::u130::u131::u132::u133::u134::u135::u136::u137::u138::u139::u140::u141::u142::u143::u144::u145::u146::u147::u148::u149::u150::u151::u152::u153::u154::u155::u156::u157::u158::u159::u160::u161::u162::u163::u164::u165::u166::u167::u168::u169::u170::u171::u172::u173::u174::u175::u176::u177::u178::u179::u180::u181::u182::u183::u184::u185::u186::u187::u188::u189::u190::u191::u192::u193::u194::u195::u196::u197::u198::u199::u200::u201::u202::u203::u204::u205::u206::u207::u208::u209::u210::u211::u212::u213::u214::u215::u216::u217::u218::u219::u220::u221::u222::u223::u224::u225::u226::u227::u228::u229::u230::u231::u232::u233::u234::u235::u236::u237::u238::u239::u240::u241::u242::u243::u244::u245::u246::u247::u248::u249::u250::u251::u252::u253::u254::u255::u256::u257::u258::u259::u260::u261::[]).toArray, []⟩ w := by
  conv => arg 2; whnf
  have HE := Lib.hid (fun W => end_any line W (by omega))
  have hE := endL_le (bl line)
  rw [bl_len] at hE
  have HC := Lib.hid (bl_cut line)
  obtain ⟨E, hEE⟩ : ∃ E, endL (bl line) = E := ⟨_, rfl⟩
  rw [hEE] at HE HC hE
  obtain ⟨t, ht⟩ : ∃ t, line.extract 0 E = t := ⟨_, rfl⟩
  rw [ht] at HC
  have hts : t.size = E := by rw [← ht, ByteArray.size_extract]; omega
  have HTS := Lib.hid (show (t.size : Int) ≤ 1000000 by omega)
  have hgoal : scanE (bl line) a m d = scanC (max a 0).toNat ((bl t).drop (max a 0).toNat) (st0 m d) := by
    unfold scanE
    rw [hEE, ← HC.out, scanL_eq]
  have HGL := Lib.hid hgoal
  have HS0 := Lib.hid (st0_ok m d)
  have k1 : (0 : Int) ≤ E := by omega
  have k2 : (E : Int) ≤ line.size := by omega
  have HQ := Lib.hid hQ
  have m4 : (m : Int) ≤ 4 := by omega
  have m4d : decide ((m : Int) ≤ 4) = true := decide_eq_true m4
  have d0 : ¬ d < 0 := by omega
  have d0d : decide (d < 0) = false := decide_eq_false d0
  have d1 : ¬ (1048576 : Int) < d := by omega
  have d1d : decide ((1048576 : Int) < d) = false := decide_eq_false d1
  have a0 : max a 0 = a := by omega
  have a0d : ¬ a < 0 := by omega
  have HI := Lib.hid (show (((max a 0).toNat : Nat) : Int) = a by omega)
  have HST := Lib.hid (show st0 m d = ⟨m, d, false, false, false⟩ by unfold st0 markE depE; rw [if_pos hm, if_neg (by omega), if_neg (by omega)])
  clear hm hd ha
  clear hgoal hEE hE hts hs hQ
  go_wp2_with (go_at_call 16; ((with_reducible refine (HE.out _).mono ?_); rintro e w1 ⟨rfl, rfl⟩))
  refine loop11 w t (w.heap.size + 1) w.heap.size (scanE (bl line) a m d) HTS.out _ ?hQ _ _ (max a 0).toNat (.slice none 0 0) [] (st0 m d) ?hF ?hO ?hR HS0.out (Nat.zero_le _)
  case hF => exact ⟨rfl, rfl, rfl, rfl, rfl, by rw [HI.out]; rfl⟩
  case hO => rw [HST.out]; exact out_start w _ _ _ _ _ _ ⟨m, d, false, false, false⟩
  case hR => unfold Rest; rw [← HGL.out]; rfl
  intro x W' v' p' hF hO
  obtain ⟨f, rfl⟩ := fr_open hF
  have HGR := Lib.hid (rfl : scanE (bl line) a m d = scanE (bl line) a m d)
  generalize hRR : scanE (bl line) a m d = RR at hO
  obtain ⟨es', st'⟩ := RR
  dsimp only at hO
  obtain ⟨A', cc', rfl⟩ := own_slice hO.row
  have c0 := hO.cell (k := 0) (show _ = some (.slice A' es'.length cc') from rfl)
  have c1 := hO.cell (k := 1) (show _ = some (.int .u8 (st'.mark : Nat)) from rfl)
  have c2 := hO.cell (k := 2) (show _ = some (.int .i64 st'.depth) from rfl)
  have c3 := hO.cell (k := 3) (show _ = some (.bool st'.j) from rfl)
  have c4 := hO.cell (k := 4) (show _ = some (.bool st'.s) from rfl)
  have c5 := hO.cell (k := 5) (show _ = some (.bool st'.c) from rfl)
  obtain ⟨x0, x1, x2, x3, x4, x5, hr⟩ := hO.res
  have y0 : W'.cell? ⟨w.heap.size, 0, none⟩ = some x0 := cellOf hr rfl
  have y1 : W'.cell? ⟨w.heap.size, 1, none⟩ = some x1 := cellOf hr rfl
  have y2 : W'.cell? ⟨w.heap.size, 2, none⟩ = some x2 := cellOf hr rfl
  have y3 : W'.cell? ⟨w.heap.size, 3, none⟩ = some x3 := cellOf hr rfl
  have y4 : W'.cell? ⟨w.heap.size, 4, none⟩ = some x4 := cellOf hr rfl
  have y5 : W'.cell? ⟨w.heap.size, 5, none⟩ = some x5 := cellOf hr rfl
  have z0 : W'.frozen? ⟨w.heap.size, 0, none⟩ = false := frozenOf hr
  have z1 : W'.frozen? ⟨w.heap.size, 1, none⟩ = false := frozenOf hr
  have z2 : W'.frozen? ⟨w.heap.size, 2, none⟩ = false := frozenOf hr
  have z3 : W'.frozen? ⟨w.heap.size, 3, none⟩ = false := frozenOf hr
  have z4 : W'.frozen? ⟨w.heap.size, 4, none⟩ = false := frozenOf hr
  have z5 : W'.frozen? ⟨w.heap.size, 5, none⟩ = false := frozenOf hr
  have HO := Lib.hid hO
  have HR := Lib.hid hr
  have HRR := Lib.hid hRR
  clear hO hF hr hRR HGR
  go_wp2
  have hq := HQ.out
  unfold PreQ at hq
  rw [HRR.out] at hq
  have hg : ∀ q, (Value.slice A' es'.length cc').ownBlock = some q → q ≠ w.heap.size := fun q e => (HO.out.apart e).2
  exact hq _ _ _ rfl rfl (set6 HR.out) (row_apart (row_apart (row_apart (row_apart (row_apart (row_apart HO.out.row hg) hg) hg) hg) hg) hg) (up_set (up_set (up_set (up_set (up_set (up_set HO.out.up))))))
set_option maxRecDepth 1000000 in
set_option maxHeartbeats 8000000 in
theorem pre_aab (w : World) (line : ByteArray) (a : Int) (m : Nat) (d : Int) (hs : (line.size : Int) ≤ 100000) (hm : m ≤ 4) (hd : 0 ≤ d ∧ d ≤ 1048576) (ha : a < 0) (Q : Exit → Act → World → Prop) (hQ : PreQ w line a m d Q) (u4 u5 u6 u7 u8 u9 u10 u11 u12 u13 u14 u15 u16 u17 u18 u19 u20 u21 u22 u23 u24 u25 u26 u27 u28 u29 u30 u31 u32 u33 u34 u35 u36 u37 u38 u39 u40 u41 u42 u43 u44 u45 u46 u47 u48 u49 u50 u51 u52 u53 u54 u55 u56 u57 u58 u59 u60 u61 u62 u63 u64 u65 u66 u67 u68 u69 u70 u71 u72 u73 u74 u75 u76 u77 u78 u79 u80 u81 u82 u83 u84 u85 u86 u87 u88 u89 u90 u91 u92 u93 u94 u95 u96 u97 u98 u99 u100 u101 u102 u103 u104 u105 u106 u107 u108 u109 u110 u111 u112 u113 u114 u115 u116 u117 u118 u119 u120 u121 u122 u123 u124 u125 u126 u127 u128 u129 u130 u131 u132 u133 u134 u135 u136 u137 u138 u139 u140 u141 u142 u143 u144 u145 u146 u147 u148 u149 u150 u151 u152 u153 u154 u155 u156 u157 u158 u159 u160 u161 u162 u163 u164 u165 u166 u167 u168 u169 u170 u171 u172 u173 u174 u175 u176 u177 u178 u179 u180 u181 u182 u183 u184 u185 u186 u187 u188 u189 u190 u191 u192 u193 u194 u195 u196 u197 u198 u199 u200 u201 u202 u203 u204 u205 u206 u207 u208 u209 u210 u211 u212 u213 u214 u215 u216 u217 u218 u219 u220 u221 u222 u223 u224 u225 u226 u227 u228 u229 u230 u231 u232 u233 u234 u235 u236 u237 u238 u239 u240 u241 u242 u243 u244 u245 u246 u247 u248 u249 u250 u251 u252 u253 u254 u255 u256 u257 u258 u259 u260 u261 : Value) :
    Code.wp Tryz.prog scanAll Q ⟨((Value.string line)::(Value.int .i64 a)::(Value.int .u8 (m : Nat))::(Value.int .i64 d)::u4::u5::u6::u7::u8::u9::u10::u11::u12::u13::u14::u15::u16::u17::u18::u19::u20::u21::u22::u23::u24::u25::u26::u27::u28::u29::u30::u31::u32::u33::u34::u35::u36::u37::u38::u39::u40::u41::u42::u43::u44::u45::u46::u47::u48::u49::u50::u51::u52::u53::u54::u55::u56::u57::u58::u59::u60::u61::u62::u63::u64::u65::u66::u67::u68::u69::u70::u71::u72::u73::u74::u75::u76::u77::u78::u79::u80::u81::u82::u83::u84::u85::u86::u87::u88::u89::u90::u91::u92::u93::u94::u95::u96::u97::u98::u99::u100::u101::u102::u103::u104::u105::u106::u107::u108::u109::u110::u111::u112::u113::u114::u115::u116::u117::u118::u119::u120::u121::u122::u123::u124::u125::u126::u127::u128::u129::u130::u131::u132::u133::u134::u135::u136::u137::u138::u139::u140::u141::u142::u143::u144::u145::u146::u147::u148::u149::u150::u151::u152::u153::u154::u155::u156::u157::u158::u159::u160::u161::u162::u163::u164::u165::u166::u167::u168::u169::u170::u171::u172::u173::u174::u175::u176::u177::u178::u179::u180::u181::u182::u183::u184::u185::u186::u187::u188::u189::u190::u191::u192::u193::u194::u195::u196::u197::u198::u199::u200::u201::u202::u203::u204::u205::u206::u207::u208::u209::u210::u211::u212::u213::u214::u215::u216::u217::u218::u219::u220::u221::u222::u223::u224::u225::u226::u227::u228::u229::u230::u231::u232::u233::u234::u235::u236::u237::u238::u239::u240::u241::u242::u243::u244::u245::u246::u247::u248::u249::u250::u251::u252::u253::u254::u255::u256::u257::u258::u259::u260::u261::[]).toArray, []⟩ w := by
  conv => arg 2; whnf
  have HE := Lib.hid (fun W => end_any line W (by omega))
  have hE := endL_le (bl line)
  rw [bl_len] at hE
  have HC := Lib.hid (bl_cut line)
  obtain ⟨E, hEE⟩ : ∃ E, endL (bl line) = E := ⟨_, rfl⟩
  rw [hEE] at HE HC hE
  obtain ⟨t, ht⟩ : ∃ t, line.extract 0 E = t := ⟨_, rfl⟩
  rw [ht] at HC
  have hts : t.size = E := by rw [← ht, ByteArray.size_extract]; omega
  have HTS := Lib.hid (show (t.size : Int) ≤ 1000000 by omega)
  have hgoal : scanE (bl line) a m d = scanC (max a 0).toNat ((bl t).drop (max a 0).toNat) (st0 m d) := by
    unfold scanE
    rw [hEE, ← HC.out, scanL_eq]
  have HGL := Lib.hid hgoal
  have HS0 := Lib.hid (st0_ok m d)
  have k1 : (0 : Int) ≤ E := by omega
  have k2 : (E : Int) ≤ line.size := by omega
  have HQ := Lib.hid hQ
  have m4 : (m : Int) ≤ 4 := by omega
  have m4d : decide ((m : Int) ≤ 4) = true := decide_eq_true m4
  have d0 : ¬ d < 0 := by omega
  have d0d : decide (d < 0) = false := decide_eq_false d0
  have d1 : ¬ (1048576 : Int) < d := by omega
  have d1d : decide ((1048576 : Int) < d) = false := decide_eq_false d1
  have a0 : max a 0 = 0 := by omega
  have a0d : a < 0 := by omega
  have HI := Lib.hid (show (((max a 0).toNat : Nat) : Int) = 0 by omega)
  have HST := Lib.hid (show st0 m d = ⟨m, d, false, false, false⟩ by unfold st0 markE depE; rw [if_pos hm, if_neg (by omega), if_neg (by omega)])
  clear hm hd ha
  clear hgoal hEE hE hts hs hQ
  go_wp2_with (go_at_call 16; ((with_reducible refine (HE.out _).mono ?_); rintro e w1 ⟨rfl, rfl⟩))
  refine loop11 w t (w.heap.size + 1) w.heap.size (scanE (bl line) a m d) HTS.out _ ?hQ _ _ (max a 0).toNat (.slice none 0 0) [] (st0 m d) ?hF ?hO ?hR HS0.out (Nat.zero_le _)
  case hF => exact ⟨rfl, rfl, rfl, rfl, rfl, by rw [HI.out]; rfl⟩
  case hO => rw [HST.out]; exact out_start w _ _ _ _ _ _ ⟨m, d, false, false, false⟩
  case hR => unfold Rest; rw [← HGL.out]; rfl
  intro x W' v' p' hF hO
  obtain ⟨f, rfl⟩ := fr_open hF
  have HGR := Lib.hid (rfl : scanE (bl line) a m d = scanE (bl line) a m d)
  generalize hRR : scanE (bl line) a m d = RR at hO
  obtain ⟨es', st'⟩ := RR
  dsimp only at hO
  obtain ⟨A', cc', rfl⟩ := own_slice hO.row
  have c0 := hO.cell (k := 0) (show _ = some (.slice A' es'.length cc') from rfl)
  have c1 := hO.cell (k := 1) (show _ = some (.int .u8 (st'.mark : Nat)) from rfl)
  have c2 := hO.cell (k := 2) (show _ = some (.int .i64 st'.depth) from rfl)
  have c3 := hO.cell (k := 3) (show _ = some (.bool st'.j) from rfl)
  have c4 := hO.cell (k := 4) (show _ = some (.bool st'.s) from rfl)
  have c5 := hO.cell (k := 5) (show _ = some (.bool st'.c) from rfl)
  obtain ⟨x0, x1, x2, x3, x4, x5, hr⟩ := hO.res
  have y0 : W'.cell? ⟨w.heap.size, 0, none⟩ = some x0 := cellOf hr rfl
  have y1 : W'.cell? ⟨w.heap.size, 1, none⟩ = some x1 := cellOf hr rfl
  have y2 : W'.cell? ⟨w.heap.size, 2, none⟩ = some x2 := cellOf hr rfl
  have y3 : W'.cell? ⟨w.heap.size, 3, none⟩ = some x3 := cellOf hr rfl
  have y4 : W'.cell? ⟨w.heap.size, 4, none⟩ = some x4 := cellOf hr rfl
  have y5 : W'.cell? ⟨w.heap.size, 5, none⟩ = some x5 := cellOf hr rfl
  have z0 : W'.frozen? ⟨w.heap.size, 0, none⟩ = false := frozenOf hr
  have z1 : W'.frozen? ⟨w.heap.size, 1, none⟩ = false := frozenOf hr
  have z2 : W'.frozen? ⟨w.heap.size, 2, none⟩ = false := frozenOf hr
  have z3 : W'.frozen? ⟨w.heap.size, 3, none⟩ = false := frozenOf hr
  have z4 : W'.frozen? ⟨w.heap.size, 4, none⟩ = false := frozenOf hr
  have z5 : W'.frozen? ⟨w.heap.size, 5, none⟩ = false := frozenOf hr
  have HO := Lib.hid hO
  have HR := Lib.hid hr
  have HRR := Lib.hid hRR
  clear hO hF hr hRR HGR
  go_wp2
  have hq := HQ.out
  unfold PreQ at hq
  rw [HRR.out] at hq
  have hg : ∀ q, (Value.slice A' es'.length cc').ownBlock = some q → q ≠ w.heap.size := fun q e => (HO.out.apart e).2
  exact hq _ _ _ rfl rfl (set6 HR.out) (row_apart (row_apart (row_apart (row_apart (row_apart (row_apart HO.out.row hg) hg) hg) hg) hg) hg) (up_set (up_set (up_set (up_set (up_set (up_set HO.out.up))))))
set_option maxRecDepth 1000000 in
set_option maxHeartbeats 8000000 in
theorem pre_aba (w : World) (line : ByteArray) (a : Int) (m : Nat) (d : Int) (hs : (line.size : Int) ≤ 100000) (hm : m ≤ 4) (hd : d < 0) (ha : 0 ≤ a) (Q : Exit → Act → World → Prop) (hQ : PreQ w line a m d Q) (u4 u5 u6 u7 u8 u9 u10 u11 u12 u13 u14 u15 u16 u17 u18 u19 u20 u21 u22 u23 u24 u25 u26 u27 u28 u29 u30 u31 u32 u33 u34 u35 u36 u37 u38 u39 u40 u41 u42 u43 u44 u45 u46 u47 u48 u49 u50 u51 u52 u53 u54 u55 u56 u57 u58 u59 u60 u61 u62 u63 u64 u65 u66 u67 u68 u69 u70 u71 u72 u73 u74 u75 u76 u77 u78 u79 u80 u81 u82 u83 u84 u85 u86 u87 u88 u89 u90 u91 u92 u93 u94 u95 u96 u97 u98 u99 u100 u101 u102 u103 u104 u105 u106 u107 u108 u109 u110 u111 u112 u113 u114 u115 u116 u117 u118 u119 u120 u121 u122 u123 u124 u125 u126 u127 u128 u129 u130 u131 u132 u133 u134 u135 u136 u137 u138 u139 u140 u141 u142 u143 u144 u145 u146 u147 u148 u149 u150 u151 u152 u153 u154 u155 u156 u157 u158 u159 u160 u161 u162 u163 u164 u165 u166 u167 u168 u169 u170 u171 u172 u173 u174 u175 u176 u177 u178 u179 u180 u181 u182 u183 u184 u185 u186 u187 u188 u189 u190 u191 u192 u193 u194 u195 u196 u197 u198 u199 u200 u201 u202 u203 u204 u205 u206 u207 u208 u209 u210 u211 u212 u213 u214 u215 u216 u217 u218 u219 u220 u221 u222 u223 u224 u225 u226 u227 u228 u229 u230 u231 u232 u233 u234 u235 u236 u237 u238 u239 u240 u241 u242 u243 u244 u245 u246 u247 u248 u249 u250 u251 u252 u253 u254 u255 u256 u257 u258 u259 u260 u261 : Value) :
    Code.wp Tryz.prog scanAll Q ⟨((Value.string line)::(Value.int .i64 a)::(Value.int .u8 (m : Nat))::(Value.int .i64 d)::u4::u5::u6::u7::u8::u9::u10::u11::u12::u13::u14::u15::u16::u17::u18::u19::u20::u21::u22::u23::u24::u25::u26::u27::u28::u29::u30::u31::u32::u33::u34::u35::u36::u37::u38::u39::u40::u41::u42::u43::u44::u45::u46::u47::u48::u49::u50::u51::u52::u53::u54::u55::u56::u57::u58::u59::u60::u61::u62::u63::u64::u65::u66::u67::u68::u69::u70::u71::u72::u73::u74::u75::u76::u77::u78::u79::u80::u81::u82::u83::u84::u85::u86::u87::u88::u89::u90::u91::u92::u93::u94::u95::u96::u97::u98::u99::u100::u101::u102::u103::u104::u105::u106::u107::u108::u109::u110::u111::u112::u113::u114::u115::u116::u117::u118::u119::u120::u121::u122::u123::u124::u125::u126::u127::u128::u129::u130::u131::u132::u133::u134::u135::u136::u137::u138::u139::u140::u141::u142::u143::u144::u145::u146::u147::u148::u149::u150::u151::u152::u153::u154::u155::u156::u157::u158::u159::u160::u161::u162::u163::u164::u165::u166::u167::u168::u169::u170::u171::u172::u173::u174::u175::u176::u177::u178::u179::u180::u181::u182::u183::u184::u185::u186::u187::u188::u189::u190::u191::u192::u193::u194::u195::u196::u197::u198::u199::u200::u201::u202::u203::u204::u205::u206::u207::u208::u209::u210::u211::u212::u213::u214::u215::u216::u217::u218::u219::u220::u221::u222::u223::u224::u225::u226::u227::u228::u229::u230::u231::u232::u233::u234::u235::u236::u237::u238::u239::u240::u241::u242::u243::u244::u245::u246::u247::u248::u249::u250::u251::u252::u253::u254::u255::u256::u257::u258::u259::u260::u261::[]).toArray, []⟩ w := by
  conv => arg 2; whnf
  have HE := Lib.hid (fun W => end_any line W (by omega))
  have hE := endL_le (bl line)
  rw [bl_len] at hE
  have HC := Lib.hid (bl_cut line)
  obtain ⟨E, hEE⟩ : ∃ E, endL (bl line) = E := ⟨_, rfl⟩
  rw [hEE] at HE HC hE
  obtain ⟨t, ht⟩ : ∃ t, line.extract 0 E = t := ⟨_, rfl⟩
  rw [ht] at HC
  have hts : t.size = E := by rw [← ht, ByteArray.size_extract]; omega
  have HTS := Lib.hid (show (t.size : Int) ≤ 1000000 by omega)
  have hgoal : scanE (bl line) a m d = scanC (max a 0).toNat ((bl t).drop (max a 0).toNat) (st0 m d) := by
    unfold scanE
    rw [hEE, ← HC.out, scanL_eq]
  have HGL := Lib.hid hgoal
  have HS0 := Lib.hid (st0_ok m d)
  have k1 : (0 : Int) ≤ E := by omega
  have k2 : (E : Int) ≤ line.size := by omega
  have HQ := Lib.hid hQ
  have m4 : (m : Int) ≤ 4 := by omega
  have m4d : decide ((m : Int) ≤ 4) = true := decide_eq_true m4
  have d0 : d < 0 := hd
  have d0d : decide (d < 0) = true := decide_eq_true d0
  have d1 : ¬ (1048576 : Int) < d := by omega
  have d1d : decide ((1048576 : Int) < d) = false := decide_eq_false d1
  have a0 : max a 0 = a := by omega
  have a0d : ¬ a < 0 := by omega
  have HI := Lib.hid (show (((max a 0).toNat : Nat) : Int) = a by omega)
  have HST := Lib.hid (show st0 m d = ⟨m, 0, false, false, false⟩ by unfold st0 markE depE; rw [if_pos hm, if_pos hd])
  clear hm hd ha
  clear hgoal hEE hE hts hs hQ
  go_wp2_with (go_at_call 16; ((with_reducible refine (HE.out _).mono ?_); rintro e w1 ⟨rfl, rfl⟩))
  refine loop11 w t (w.heap.size + 1) w.heap.size (scanE (bl line) a m d) HTS.out _ ?hQ _ _ (max a 0).toNat (.slice none 0 0) [] (st0 m d) ?hF ?hO ?hR HS0.out (Nat.zero_le _)
  case hF => exact ⟨rfl, rfl, rfl, rfl, rfl, by rw [HI.out]; rfl⟩
  case hO => rw [HST.out]; exact out_start w _ _ _ _ _ _ ⟨m, 0, false, false, false⟩
  case hR => unfold Rest; rw [← HGL.out]; rfl
  intro x W' v' p' hF hO
  obtain ⟨f, rfl⟩ := fr_open hF
  have HGR := Lib.hid (rfl : scanE (bl line) a m d = scanE (bl line) a m d)
  generalize hRR : scanE (bl line) a m d = RR at hO
  obtain ⟨es', st'⟩ := RR
  dsimp only at hO
  obtain ⟨A', cc', rfl⟩ := own_slice hO.row
  have c0 := hO.cell (k := 0) (show _ = some (.slice A' es'.length cc') from rfl)
  have c1 := hO.cell (k := 1) (show _ = some (.int .u8 (st'.mark : Nat)) from rfl)
  have c2 := hO.cell (k := 2) (show _ = some (.int .i64 st'.depth) from rfl)
  have c3 := hO.cell (k := 3) (show _ = some (.bool st'.j) from rfl)
  have c4 := hO.cell (k := 4) (show _ = some (.bool st'.s) from rfl)
  have c5 := hO.cell (k := 5) (show _ = some (.bool st'.c) from rfl)
  obtain ⟨x0, x1, x2, x3, x4, x5, hr⟩ := hO.res
  have y0 : W'.cell? ⟨w.heap.size, 0, none⟩ = some x0 := cellOf hr rfl
  have y1 : W'.cell? ⟨w.heap.size, 1, none⟩ = some x1 := cellOf hr rfl
  have y2 : W'.cell? ⟨w.heap.size, 2, none⟩ = some x2 := cellOf hr rfl
  have y3 : W'.cell? ⟨w.heap.size, 3, none⟩ = some x3 := cellOf hr rfl
  have y4 : W'.cell? ⟨w.heap.size, 4, none⟩ = some x4 := cellOf hr rfl
  have y5 : W'.cell? ⟨w.heap.size, 5, none⟩ = some x5 := cellOf hr rfl
  have z0 : W'.frozen? ⟨w.heap.size, 0, none⟩ = false := frozenOf hr
  have z1 : W'.frozen? ⟨w.heap.size, 1, none⟩ = false := frozenOf hr
  have z2 : W'.frozen? ⟨w.heap.size, 2, none⟩ = false := frozenOf hr
  have z3 : W'.frozen? ⟨w.heap.size, 3, none⟩ = false := frozenOf hr
  have z4 : W'.frozen? ⟨w.heap.size, 4, none⟩ = false := frozenOf hr
  have z5 : W'.frozen? ⟨w.heap.size, 5, none⟩ = false := frozenOf hr
  have HO := Lib.hid hO
  have HR := Lib.hid hr
  have HRR := Lib.hid hRR
  clear hO hF hr hRR HGR
  go_wp2
  have hq := HQ.out
  unfold PreQ at hq
  rw [HRR.out] at hq
  have hg : ∀ q, (Value.slice A' es'.length cc').ownBlock = some q → q ≠ w.heap.size := fun q e => (HO.out.apart e).2
  exact hq _ _ _ rfl rfl (set6 HR.out) (row_apart (row_apart (row_apart (row_apart (row_apart (row_apart HO.out.row hg) hg) hg) hg) hg) hg) (up_set (up_set (up_set (up_set (up_set (up_set HO.out.up))))))
set_option maxRecDepth 1000000 in
set_option maxHeartbeats 8000000 in
theorem pre_abb (w : World) (line : ByteArray) (a : Int) (m : Nat) (d : Int) (hs : (line.size : Int) ≤ 100000) (hm : m ≤ 4) (hd : d < 0) (ha : a < 0) (Q : Exit → Act → World → Prop) (hQ : PreQ w line a m d Q) (u4 u5 u6 u7 u8 u9 u10 u11 u12 u13 u14 u15 u16 u17 u18 u19 u20 u21 u22 u23 u24 u25 u26 u27 u28 u29 u30 u31 u32 u33 u34 u35 u36 u37 u38 u39 u40 u41 u42 u43 u44 u45 u46 u47 u48 u49 u50 u51 u52 u53 u54 u55 u56 u57 u58 u59 u60 u61 u62 u63 u64 u65 u66 u67 u68 u69 u70 u71 u72 u73 u74 u75 u76 u77 u78 u79 u80 u81 u82 u83 u84 u85 u86 u87 u88 u89 u90 u91 u92 u93 u94 u95 u96 u97 u98 u99 u100 u101 u102 u103 u104 u105 u106 u107 u108 u109 u110 u111 u112 u113 u114 u115 u116 u117 u118 u119 u120 u121 u122 u123 u124 u125 u126 u127 u128 u129 u130 u131 u132 u133 u134 u135 u136 u137 u138 u139 u140 u141 u142 u143 u144 u145 u146 u147 u148 u149 u150 u151 u152 u153 u154 u155 u156 u157 u158 u159 u160 u161 u162 u163 u164 u165 u166 u167 u168 u169 u170 u171 u172 u173 u174 u175 u176 u177 u178 u179 u180 u181 u182 u183 u184 u185 u186 u187 u188 u189 u190 u191 u192 u193 u194 u195 u196 u197 u198 u199 u200 u201 u202 u203 u204 u205 u206 u207 u208 u209 u210 u211 u212 u213 u214 u215 u216 u217 u218 u219 u220 u221 u222 u223 u224 u225 u226 u227 u228 u229 u230 u231 u232 u233 u234 u235 u236 u237 u238 u239 u240 u241 u242 u243 u244 u245 u246 u247 u248 u249 u250 u251 u252 u253 u254 u255 u256 u257 u258 u259 u260 u261 : Value) :
    Code.wp Tryz.prog scanAll Q ⟨((Value.string line)::(Value.int .i64 a)::(Value.int .u8 (m : Nat))::(Value.int .i64 d)::u4::u5::u6::u7::u8::u9::u10::u11::u12::u13::u14::u15::u16::u17::u18::u19::u20::u21::u22::u23::u24::u25::u26::u27::u28::u29::u30::u31::u32::u33::u34::u35::u36::u37::u38::u39::u40::u41::u42::u43::u44::u45::u46::u47::u48::u49::u50::u51::u52::u53::u54::u55::u56::u57::u58::u59::u60::u61::u62::u63::u64::u65::u66::u67::u68::u69::u70::u71::u72::u73::u74::u75::u76::u77::u78::u79::u80::u81::u82::u83::u84::u85::u86::u87::u88::u89::u90::u91::u92::u93::u94::u95::u96::u97::u98::u99::u100::u101::u102::u103::u104::u105::u106::u107::u108::u109::u110::u111::u112::u113::u114::u115::u116::u117::u118::u119::u120::u121::u122::u123::u124::u125::u126::u127::u128::u129::u130::u131::u132::u133::u134::u135::u136::u137::u138::u139::u140::u141::u142::u143::u144::u145::u146::u147::u148::u149::u150::u151::u152::u153::u154::u155::u156::u157::u158::u159::u160::u161::u162::u163::u164::u165::u166::u167::u168::u169::u170::u171::u172::u173::u174::u175::u176::u177::u178::u179::u180::u181::u182::u183::u184::u185::u186::u187::u188::u189::u190::u191::u192::u193::u194::u195::u196::u197::u198::u199::u200::u201::u202::u203::u204::u205::u206::u207::u208::u209::u210::u211::u212::u213::u214::u215::u216::u217::u218::u219::u220::u221::u222::u223::u224::u225::u226::u227::u228::u229::u230::u231::u232::u233::u234::u235::u236::u237::u238::u239::u240::u241::u242::u243::u244::u245::u246::u247::u248::u249::u250::u251::u252::u253::u254::u255::u256::u257::u258::u259::u260::u261::[]).toArray, []⟩ w := by
  conv => arg 2; whnf
  have HE := Lib.hid (fun W => end_any line W (by omega))
  have hE := endL_le (bl line)
  rw [bl_len] at hE
  have HC := Lib.hid (bl_cut line)
  obtain ⟨E, hEE⟩ : ∃ E, endL (bl line) = E := ⟨_, rfl⟩
  rw [hEE] at HE HC hE
  obtain ⟨t, ht⟩ : ∃ t, line.extract 0 E = t := ⟨_, rfl⟩
  rw [ht] at HC
  have hts : t.size = E := by rw [← ht, ByteArray.size_extract]; omega
  have HTS := Lib.hid (show (t.size : Int) ≤ 1000000 by omega)
  have hgoal : scanE (bl line) a m d = scanC (max a 0).toNat ((bl t).drop (max a 0).toNat) (st0 m d) := by
    unfold scanE
    rw [hEE, ← HC.out, scanL_eq]
  have HGL := Lib.hid hgoal
  have HS0 := Lib.hid (st0_ok m d)
  have k1 : (0 : Int) ≤ E := by omega
  have k2 : (E : Int) ≤ line.size := by omega
  have HQ := Lib.hid hQ
  have m4 : (m : Int) ≤ 4 := by omega
  have m4d : decide ((m : Int) ≤ 4) = true := decide_eq_true m4
  have d0 : d < 0 := hd
  have d0d : decide (d < 0) = true := decide_eq_true d0
  have d1 : ¬ (1048576 : Int) < d := by omega
  have d1d : decide ((1048576 : Int) < d) = false := decide_eq_false d1
  have a0 : max a 0 = 0 := by omega
  have a0d : a < 0 := by omega
  have HI := Lib.hid (show (((max a 0).toNat : Nat) : Int) = 0 by omega)
  have HST := Lib.hid (show st0 m d = ⟨m, 0, false, false, false⟩ by unfold st0 markE depE; rw [if_pos hm, if_pos hd])
  clear hm hd ha
  clear hgoal hEE hE hts hs hQ
  go_wp2_with (go_at_call 16; ((with_reducible refine (HE.out _).mono ?_); rintro e w1 ⟨rfl, rfl⟩))
  refine loop11 w t (w.heap.size + 1) w.heap.size (scanE (bl line) a m d) HTS.out _ ?hQ _ _ (max a 0).toNat (.slice none 0 0) [] (st0 m d) ?hF ?hO ?hR HS0.out (Nat.zero_le _)
  case hF => exact ⟨rfl, rfl, rfl, rfl, rfl, by rw [HI.out]; rfl⟩
  case hO => rw [HST.out]; exact out_start w _ _ _ _ _ _ ⟨m, 0, false, false, false⟩
  case hR => unfold Rest; rw [← HGL.out]; rfl
  intro x W' v' p' hF hO
  obtain ⟨f, rfl⟩ := fr_open hF
  have HGR := Lib.hid (rfl : scanE (bl line) a m d = scanE (bl line) a m d)
  generalize hRR : scanE (bl line) a m d = RR at hO
  obtain ⟨es', st'⟩ := RR
  dsimp only at hO
  obtain ⟨A', cc', rfl⟩ := own_slice hO.row
  have c0 := hO.cell (k := 0) (show _ = some (.slice A' es'.length cc') from rfl)
  have c1 := hO.cell (k := 1) (show _ = some (.int .u8 (st'.mark : Nat)) from rfl)
  have c2 := hO.cell (k := 2) (show _ = some (.int .i64 st'.depth) from rfl)
  have c3 := hO.cell (k := 3) (show _ = some (.bool st'.j) from rfl)
  have c4 := hO.cell (k := 4) (show _ = some (.bool st'.s) from rfl)
  have c5 := hO.cell (k := 5) (show _ = some (.bool st'.c) from rfl)
  obtain ⟨x0, x1, x2, x3, x4, x5, hr⟩ := hO.res
  have y0 : W'.cell? ⟨w.heap.size, 0, none⟩ = some x0 := cellOf hr rfl
  have y1 : W'.cell? ⟨w.heap.size, 1, none⟩ = some x1 := cellOf hr rfl
  have y2 : W'.cell? ⟨w.heap.size, 2, none⟩ = some x2 := cellOf hr rfl
  have y3 : W'.cell? ⟨w.heap.size, 3, none⟩ = some x3 := cellOf hr rfl
  have y4 : W'.cell? ⟨w.heap.size, 4, none⟩ = some x4 := cellOf hr rfl
  have y5 : W'.cell? ⟨w.heap.size, 5, none⟩ = some x5 := cellOf hr rfl
  have z0 : W'.frozen? ⟨w.heap.size, 0, none⟩ = false := frozenOf hr
  have z1 : W'.frozen? ⟨w.heap.size, 1, none⟩ = false := frozenOf hr
  have z2 : W'.frozen? ⟨w.heap.size, 2, none⟩ = false := frozenOf hr
  have z3 : W'.frozen? ⟨w.heap.size, 3, none⟩ = false := frozenOf hr
  have z4 : W'.frozen? ⟨w.heap.size, 4, none⟩ = false := frozenOf hr
  have z5 : W'.frozen? ⟨w.heap.size, 5, none⟩ = false := frozenOf hr
  have HO := Lib.hid hO
  have HR := Lib.hid hr
  have HRR := Lib.hid hRR
  clear hO hF hr hRR HGR
  go_wp2
  have hq := HQ.out
  unfold PreQ at hq
  rw [HRR.out] at hq
  have hg : ∀ q, (Value.slice A' es'.length cc').ownBlock = some q → q ≠ w.heap.size := fun q e => (HO.out.apart e).2
  exact hq _ _ _ rfl rfl (set6 HR.out) (row_apart (row_apart (row_apart (row_apart (row_apart (row_apart HO.out.row hg) hg) hg) hg) hg) hg) (up_set (up_set (up_set (up_set (up_set (up_set HO.out.up))))))
set_option maxRecDepth 1000000 in
set_option maxHeartbeats 8000000 in
theorem pre_aca (w : World) (line : ByteArray) (a : Int) (m : Nat) (d : Int) (hs : (line.size : Int) ≤ 100000) (hm : m ≤ 4) (hd : 1048576 < d) (ha : 0 ≤ a) (Q : Exit → Act → World → Prop) (hQ : PreQ w line a m d Q) (u4 u5 u6 u7 u8 u9 u10 u11 u12 u13 u14 u15 u16 u17 u18 u19 u20 u21 u22 u23 u24 u25 u26 u27 u28 u29 u30 u31 u32 u33 u34 u35 u36 u37 u38 u39 u40 u41 u42 u43 u44 u45 u46 u47 u48 u49 u50 u51 u52 u53 u54 u55 u56 u57 u58 u59 u60 u61 u62 u63 u64 u65 u66 u67 u68 u69 u70 u71 u72 u73 u74 u75 u76 u77 u78 u79 u80 u81 u82 u83 u84 u85 u86 u87 u88 u89 u90 u91 u92 u93 u94 u95 u96 u97 u98 u99 u100 u101 u102 u103 u104 u105 u106 u107 u108 u109 u110 u111 u112 u113 u114 u115 u116 u117 u118 u119 u120 u121 u122 u123 u124 u125 u126 u127 u128 u129 u130 u131 u132 u133 u134 u135 u136 u137 u138 u139 u140 u141 u142 u143 u144 u145 u146 u147 u148 u149 u150 u151 u152 u153 u154 u155 u156 u157 u158 u159 u160 u161 u162 u163 u164 u165 u166 u167 u168 u169 u170 u171 u172 u173 u174 u175 u176 u177 u178 u179 u180 u181 u182 u183 u184 u185 u186 u187 u188 u189 u190 u191 u192 u193 u194 u195 u196 u197 u198 u199 u200 u201 u202 u203 u204 u205 u206 u207 u208 u209 u210 u211 u212 u213 u214 u215 u216 u217 u218 u219 u220 u221 u222 u223 u224 u225 u226 u227 u228 u229 u230 u231 u232 u233 u234 u235 u236 u237 u238 u239 u240 u241 u242 u243 u244 u245 u246 u247 u248 u249 u250 u251 u252 u253 u254 u255 u256 u257 u258 u259 u260 u261 : Value) :
    Code.wp Tryz.prog scanAll Q ⟨((Value.string line)::(Value.int .i64 a)::(Value.int .u8 (m : Nat))::(Value.int .i64 d)::u4::u5::u6::u7::u8::u9::u10::u11::u12::u13::u14::u15::u16::u17::u18::u19::u20::u21::u22::u23::u24::u25::u26::u27::u28::u29::u30::u31::u32::u33::u34::u35::u36::u37::u38::u39::u40::u41::u42::u43::u44::u45::u46::u47::u48::u49::u50::u51::u52::u53::u54::u55::u56::u57::u58::u59::u60::u61::u62::u63::u64::u65::u66::u67::u68::u69::u70::u71::u72::u73::u74::u75::u76::u77::u78::u79::u80::u81::u82::u83::u84::u85::u86::u87::u88::u89::u90::u91::u92::u93::u94::u95::u96::u97::u98::u99::u100::u101::u102::u103::u104::u105::u106::u107::u108::u109::u110::u111::u112::u113::u114::u115::u116::u117::u118::u119::u120::u121::u122::u123::u124::u125::u126::u127::u128::u129::u130::u131::u132::u133::u134::u135::u136::u137::u138::u139::u140::u141::u142::u143::u144::u145::u146::u147::u148::u149::u150::u151::u152::u153::u154::u155::u156::u157::u158::u159::u160::u161::u162::u163::u164::u165::u166::u167::u168::u169::u170::u171::u172::u173::u174::u175::u176::u177::u178::u179::u180::u181::u182::u183::u184::u185::u186::u187::u188::u189::u190::u191::u192::u193::u194::u195::u196::u197::u198::u199::u200::u201::u202::u203::u204::u205::u206::u207::u208::u209::u210::u211::u212::u213::u214::u215::u216::u217::u218::u219::u220::u221::u222::u223::u224::u225::u226::u227::u228::u229::u230::u231::u232::u233::u234::u235::u236::u237::u238::u239::u240::u241::u242::u243::u244::u245::u246::u247::u248::u249::u250::u251::u252::u253::u254::u255::u256::u257::u258::u259::u260::u261::[]).toArray, []⟩ w := by
  conv => arg 2; whnf
  have HE := Lib.hid (fun W => end_any line W (by omega))
  have hE := endL_le (bl line)
  rw [bl_len] at hE
  have HC := Lib.hid (bl_cut line)
  obtain ⟨E, hEE⟩ : ∃ E, endL (bl line) = E := ⟨_, rfl⟩
  rw [hEE] at HE HC hE
  obtain ⟨t, ht⟩ : ∃ t, line.extract 0 E = t := ⟨_, rfl⟩
  rw [ht] at HC
  have hts : t.size = E := by rw [← ht, ByteArray.size_extract]; omega
  have HTS := Lib.hid (show (t.size : Int) ≤ 1000000 by omega)
  have hgoal : scanE (bl line) a m d = scanC (max a 0).toNat ((bl t).drop (max a 0).toNat) (st0 m d) := by
    unfold scanE
    rw [hEE, ← HC.out, scanL_eq]
  have HGL := Lib.hid hgoal
  have HS0 := Lib.hid (st0_ok m d)
  have k1 : (0 : Int) ≤ E := by omega
  have k2 : (E : Int) ≤ line.size := by omega
  have HQ := Lib.hid hQ
  have m4 : (m : Int) ≤ 4 := by omega
  have m4d : decide ((m : Int) ≤ 4) = true := decide_eq_true m4
  have d0 : ¬ d < 0 := by omega
  have d0d : decide (d < 0) = false := decide_eq_false d0
  have d1 : (1048576 : Int) < d := by omega
  have d1d : decide ((1048576 : Int) < d) = true := decide_eq_true d1
  have a0 : max a 0 = a := by omega
  have a0d : ¬ a < 0 := by omega
  have HI := Lib.hid (show (((max a 0).toNat : Nat) : Int) = a by omega)
  have HST := Lib.hid (show st0 m d = ⟨m, 1048576, false, false, false⟩ by unfold st0 markE depE; rw [if_pos hm, if_neg (by omega), if_pos hd])
  clear hm hd ha
  clear hgoal hEE hE hts hs hQ
  go_wp2_with (go_at_call 16; ((with_reducible refine (HE.out _).mono ?_); rintro e w1 ⟨rfl, rfl⟩))
  refine loop11 w t (w.heap.size + 1) w.heap.size (scanE (bl line) a m d) HTS.out _ ?hQ _ _ (max a 0).toNat (.slice none 0 0) [] (st0 m d) ?hF ?hO ?hR HS0.out (Nat.zero_le _)
  case hF => exact ⟨rfl, rfl, rfl, rfl, rfl, by rw [HI.out]; rfl⟩
  case hO => rw [HST.out]; exact out_start w _ _ _ _ _ _ ⟨m, 1048576, false, false, false⟩
  case hR => unfold Rest; rw [← HGL.out]; rfl
  intro x W' v' p' hF hO
  obtain ⟨f, rfl⟩ := fr_open hF
  have HGR := Lib.hid (rfl : scanE (bl line) a m d = scanE (bl line) a m d)
  generalize hRR : scanE (bl line) a m d = RR at hO
  obtain ⟨es', st'⟩ := RR
  dsimp only at hO
  obtain ⟨A', cc', rfl⟩ := own_slice hO.row
  have c0 := hO.cell (k := 0) (show _ = some (.slice A' es'.length cc') from rfl)
  have c1 := hO.cell (k := 1) (show _ = some (.int .u8 (st'.mark : Nat)) from rfl)
  have c2 := hO.cell (k := 2) (show _ = some (.int .i64 st'.depth) from rfl)
  have c3 := hO.cell (k := 3) (show _ = some (.bool st'.j) from rfl)
  have c4 := hO.cell (k := 4) (show _ = some (.bool st'.s) from rfl)
  have c5 := hO.cell (k := 5) (show _ = some (.bool st'.c) from rfl)
  obtain ⟨x0, x1, x2, x3, x4, x5, hr⟩ := hO.res
  have y0 : W'.cell? ⟨w.heap.size, 0, none⟩ = some x0 := cellOf hr rfl
  have y1 : W'.cell? ⟨w.heap.size, 1, none⟩ = some x1 := cellOf hr rfl
  have y2 : W'.cell? ⟨w.heap.size, 2, none⟩ = some x2 := cellOf hr rfl
  have y3 : W'.cell? ⟨w.heap.size, 3, none⟩ = some x3 := cellOf hr rfl
  have y4 : W'.cell? ⟨w.heap.size, 4, none⟩ = some x4 := cellOf hr rfl
  have y5 : W'.cell? ⟨w.heap.size, 5, none⟩ = some x5 := cellOf hr rfl
  have z0 : W'.frozen? ⟨w.heap.size, 0, none⟩ = false := frozenOf hr
  have z1 : W'.frozen? ⟨w.heap.size, 1, none⟩ = false := frozenOf hr
  have z2 : W'.frozen? ⟨w.heap.size, 2, none⟩ = false := frozenOf hr
  have z3 : W'.frozen? ⟨w.heap.size, 3, none⟩ = false := frozenOf hr
  have z4 : W'.frozen? ⟨w.heap.size, 4, none⟩ = false := frozenOf hr
  have z5 : W'.frozen? ⟨w.heap.size, 5, none⟩ = false := frozenOf hr
  have HO := Lib.hid hO
  have HR := Lib.hid hr
  have HRR := Lib.hid hRR
  clear hO hF hr hRR HGR
  go_wp2
  have hq := HQ.out
  unfold PreQ at hq
  rw [HRR.out] at hq
  have hg : ∀ q, (Value.slice A' es'.length cc').ownBlock = some q → q ≠ w.heap.size := fun q e => (HO.out.apart e).2
  exact hq _ _ _ rfl rfl (set6 HR.out) (row_apart (row_apart (row_apart (row_apart (row_apart (row_apart HO.out.row hg) hg) hg) hg) hg) hg) (up_set (up_set (up_set (up_set (up_set (up_set HO.out.up))))))
set_option maxRecDepth 1000000 in
set_option maxHeartbeats 8000000 in
theorem pre_acb (w : World) (line : ByteArray) (a : Int) (m : Nat) (d : Int) (hs : (line.size : Int) ≤ 100000) (hm : m ≤ 4) (hd : 1048576 < d) (ha : a < 0) (Q : Exit → Act → World → Prop) (hQ : PreQ w line a m d Q) (u4 u5 u6 u7 u8 u9 u10 u11 u12 u13 u14 u15 u16 u17 u18 u19 u20 u21 u22 u23 u24 u25 u26 u27 u28 u29 u30 u31 u32 u33 u34 u35 u36 u37 u38 u39 u40 u41 u42 u43 u44 u45 u46 u47 u48 u49 u50 u51 u52 u53 u54 u55 u56 u57 u58 u59 u60 u61 u62 u63 u64 u65 u66 u67 u68 u69 u70 u71 u72 u73 u74 u75 u76 u77 u78 u79 u80 u81 u82 u83 u84 u85 u86 u87 u88 u89 u90 u91 u92 u93 u94 u95 u96 u97 u98 u99 u100 u101 u102 u103 u104 u105 u106 u107 u108 u109 u110 u111 u112 u113 u114 u115 u116 u117 u118 u119 u120 u121 u122 u123 u124 u125 u126 u127 u128 u129 u130 u131 u132 u133 u134 u135 u136 u137 u138 u139 u140 u141 u142 u143 u144 u145 u146 u147 u148 u149 u150 u151 u152 u153 u154 u155 u156 u157 u158 u159 u160 u161 u162 u163 u164 u165 u166 u167 u168 u169 u170 u171 u172 u173 u174 u175 u176 u177 u178 u179 u180 u181 u182 u183 u184 u185 u186 u187 u188 u189 u190 u191 u192 u193 u194 u195 u196 u197 u198 u199 u200 u201 u202 u203 u204 u205 u206 u207 u208 u209 u210 u211 u212 u213 u214 u215 u216 u217 u218 u219 u220 u221 u222 u223 u224 u225 u226 u227 u228 u229 u230 u231 u232 u233 u234 u235 u236 u237 u238 u239 u240 u241 u242 u243 u244 u245 u246 u247 u248 u249 u250 u251 u252 u253 u254 u255 u256 u257 u258 u259 u260 u261 : Value) :
    Code.wp Tryz.prog scanAll Q ⟨((Value.string line)::(Value.int .i64 a)::(Value.int .u8 (m : Nat))::(Value.int .i64 d)::u4::u5::u6::u7::u8::u9::u10::u11::u12::u13::u14::u15::u16::u17::u18::u19::u20::u21::u22::u23::u24::u25::u26::u27::u28::u29::u30::u31::u32::u33::u34::u35::u36::u37::u38::u39::u40::u41::u42::u43::u44::u45::u46::u47::u48::u49::u50::u51::u52::u53::u54::u55::u56::u57::u58::u59::u60::u61::u62::u63::u64::u65::u66::u67::u68::u69::u70::u71::u72::u73::u74::u75::u76::u77::u78::u79::u80::u81::u82::u83::u84::u85::u86::u87::u88::u89::u90::u91::u92::u93::u94::u95::u96::u97::u98::u99::u100::u101::u102::u103::u104::u105::u106::u107::u108::u109::u110::u111::u112::u113::u114::u115::u116::u117::u118::u119::u120::u121::u122::u123::u124::u125::u126::u127::u128::u129::u130::u131::u132::u133::u134::u135::u136::u137::u138::u139::u140::u141::u142::u143::u144::u145::u146::u147::u148::u149::u150::u151::u152::u153::u154::u155::u156::u157::u158::u159::u160::u161::u162::u163::u164::u165::u166::u167::u168::u169::u170::u171::u172::u173::u174::u175::u176::u177::u178::u179::u180::u181::u182::u183::u184::u185::u186::u187::u188::u189::u190::u191::u192::u193::u194::u195::u196::u197::u198::u199::u200::u201::u202::u203::u204::u205::u206::u207::u208::u209::u210::u211::u212::u213::u214::u215::u216::u217::u218::u219::u220::u221::u222::u223::u224::u225::u226::u227::u228::u229::u230::u231::u232::u233::u234::u235::u236::u237::u238::u239::u240::u241::u242::u243::u244::u245::u246::u247::u248::u249::u250::u251::u252::u253::u254::u255::u256::u257::u258::u259::u260::u261::[]).toArray, []⟩ w := by
  conv => arg 2; whnf
  have HE := Lib.hid (fun W => end_any line W (by omega))
  have hE := endL_le (bl line)
  rw [bl_len] at hE
  have HC := Lib.hid (bl_cut line)
  obtain ⟨E, hEE⟩ : ∃ E, endL (bl line) = E := ⟨_, rfl⟩
  rw [hEE] at HE HC hE
  obtain ⟨t, ht⟩ : ∃ t, line.extract 0 E = t := ⟨_, rfl⟩
  rw [ht] at HC
  have hts : t.size = E := by rw [← ht, ByteArray.size_extract]; omega
  have HTS := Lib.hid (show (t.size : Int) ≤ 1000000 by omega)
  have hgoal : scanE (bl line) a m d = scanC (max a 0).toNat ((bl t).drop (max a 0).toNat) (st0 m d) := by
    unfold scanE
    rw [hEE, ← HC.out, scanL_eq]
  have HGL := Lib.hid hgoal
  have HS0 := Lib.hid (st0_ok m d)
  have k1 : (0 : Int) ≤ E := by omega
  have k2 : (E : Int) ≤ line.size := by omega
  have HQ := Lib.hid hQ
  have m4 : (m : Int) ≤ 4 := by omega
  have m4d : decide ((m : Int) ≤ 4) = true := decide_eq_true m4
  have d0 : ¬ d < 0 := by omega
  have d0d : decide (d < 0) = false := decide_eq_false d0
  have d1 : (1048576 : Int) < d := by omega
  have d1d : decide ((1048576 : Int) < d) = true := decide_eq_true d1
  have a0 : max a 0 = 0 := by omega
  have a0d : a < 0 := by omega
  have HI := Lib.hid (show (((max a 0).toNat : Nat) : Int) = 0 by omega)
  have HST := Lib.hid (show st0 m d = ⟨m, 1048576, false, false, false⟩ by unfold st0 markE depE; rw [if_pos hm, if_neg (by omega), if_pos hd])
  clear hm hd ha
  clear hgoal hEE hE hts hs hQ
  go_wp2_with (go_at_call 16; ((with_reducible refine (HE.out _).mono ?_); rintro e w1 ⟨rfl, rfl⟩))
  refine loop11 w t (w.heap.size + 1) w.heap.size (scanE (bl line) a m d) HTS.out _ ?hQ _ _ (max a 0).toNat (.slice none 0 0) [] (st0 m d) ?hF ?hO ?hR HS0.out (Nat.zero_le _)
  case hF => exact ⟨rfl, rfl, rfl, rfl, rfl, by rw [HI.out]; rfl⟩
  case hO => rw [HST.out]; exact out_start w _ _ _ _ _ _ ⟨m, 1048576, false, false, false⟩
  case hR => unfold Rest; rw [← HGL.out]; rfl
  intro x W' v' p' hF hO
  obtain ⟨f, rfl⟩ := fr_open hF
  have HGR := Lib.hid (rfl : scanE (bl line) a m d = scanE (bl line) a m d)
  generalize hRR : scanE (bl line) a m d = RR at hO
  obtain ⟨es', st'⟩ := RR
  dsimp only at hO
  obtain ⟨A', cc', rfl⟩ := own_slice hO.row
  have c0 := hO.cell (k := 0) (show _ = some (.slice A' es'.length cc') from rfl)
  have c1 := hO.cell (k := 1) (show _ = some (.int .u8 (st'.mark : Nat)) from rfl)
  have c2 := hO.cell (k := 2) (show _ = some (.int .i64 st'.depth) from rfl)
  have c3 := hO.cell (k := 3) (show _ = some (.bool st'.j) from rfl)
  have c4 := hO.cell (k := 4) (show _ = some (.bool st'.s) from rfl)
  have c5 := hO.cell (k := 5) (show _ = some (.bool st'.c) from rfl)
  obtain ⟨x0, x1, x2, x3, x4, x5, hr⟩ := hO.res
  have y0 : W'.cell? ⟨w.heap.size, 0, none⟩ = some x0 := cellOf hr rfl
  have y1 : W'.cell? ⟨w.heap.size, 1, none⟩ = some x1 := cellOf hr rfl
  have y2 : W'.cell? ⟨w.heap.size, 2, none⟩ = some x2 := cellOf hr rfl
  have y3 : W'.cell? ⟨w.heap.size, 3, none⟩ = some x3 := cellOf hr rfl
  have y4 : W'.cell? ⟨w.heap.size, 4, none⟩ = some x4 := cellOf hr rfl
  have y5 : W'.cell? ⟨w.heap.size, 5, none⟩ = some x5 := cellOf hr rfl
  have z0 : W'.frozen? ⟨w.heap.size, 0, none⟩ = false := frozenOf hr
  have z1 : W'.frozen? ⟨w.heap.size, 1, none⟩ = false := frozenOf hr
  have z2 : W'.frozen? ⟨w.heap.size, 2, none⟩ = false := frozenOf hr
  have z3 : W'.frozen? ⟨w.heap.size, 3, none⟩ = false := frozenOf hr
  have z4 : W'.frozen? ⟨w.heap.size, 4, none⟩ = false := frozenOf hr
  have z5 : W'.frozen? ⟨w.heap.size, 5, none⟩ = false := frozenOf hr
  have HO := Lib.hid hO
  have HR := Lib.hid hr
  have HRR := Lib.hid hRR
  clear hO hF hr hRR HGR
  go_wp2
  have hq := HQ.out
  unfold PreQ at hq
  rw [HRR.out] at hq
  have hg : ∀ q, (Value.slice A' es'.length cc').ownBlock = some q → q ≠ w.heap.size := fun q e => (HO.out.apart e).2
  exact hq _ _ _ rfl rfl (set6 HR.out) (row_apart (row_apart (row_apart (row_apart (row_apart (row_apart HO.out.row hg) hg) hg) hg) hg) hg) (up_set (up_set (up_set (up_set (up_set (up_set HO.out.up))))))
set_option maxRecDepth 1000000 in
set_option maxHeartbeats 8000000 in
theorem pre_baa (w : World) (line : ByteArray) (a : Int) (m : Nat) (d : Int) (hs : (line.size : Int) ≤ 100000) (hm : ¬ m ≤ 4) (hd : 0 ≤ d ∧ d ≤ 1048576) (ha : 0 ≤ a) (Q : Exit → Act → World → Prop) (hQ : PreQ w line a m d Q) (u4 u5 u6 u7 u8 u9 u10 u11 u12 u13 u14 u15 u16 u17 u18 u19 u20 u21 u22 u23 u24 u25 u26 u27 u28 u29 u30 u31 u32 u33 u34 u35 u36 u37 u38 u39 u40 u41 u42 u43 u44 u45 u46 u47 u48 u49 u50 u51 u52 u53 u54 u55 u56 u57 u58 u59 u60 u61 u62 u63 u64 u65 u66 u67 u68 u69 u70 u71 u72 u73 u74 u75 u76 u77 u78 u79 u80 u81 u82 u83 u84 u85 u86 u87 u88 u89 u90 u91 u92 u93 u94 u95 u96 u97 u98 u99 u100 u101 u102 u103 u104 u105 u106 u107 u108 u109 u110 u111 u112 u113 u114 u115 u116 u117 u118 u119 u120 u121 u122 u123 u124 u125 u126 u127 u128 u129 u130 u131 u132 u133 u134 u135 u136 u137 u138 u139 u140 u141 u142 u143 u144 u145 u146 u147 u148 u149 u150 u151 u152 u153 u154 u155 u156 u157 u158 u159 u160 u161 u162 u163 u164 u165 u166 u167 u168 u169 u170 u171 u172 u173 u174 u175 u176 u177 u178 u179 u180 u181 u182 u183 u184 u185 u186 u187 u188 u189 u190 u191 u192 u193 u194 u195 u196 u197 u198 u199 u200 u201 u202 u203 u204 u205 u206 u207 u208 u209 u210 u211 u212 u213 u214 u215 u216 u217 u218 u219 u220 u221 u222 u223 u224 u225 u226 u227 u228 u229 u230 u231 u232 u233 u234 u235 u236 u237 u238 u239 u240 u241 u242 u243 u244 u245 u246 u247 u248 u249 u250 u251 u252 u253 u254 u255 u256 u257 u258 u259 u260 u261 : Value) :
    Code.wp Tryz.prog scanAll Q ⟨((Value.string line)::(Value.int .i64 a)::(Value.int .u8 (m : Nat))::(Value.int .i64 d)::u4::u5::u6::u7::u8::u9::u10::u11::u12::u13::u14::u15::u16::u17::u18::u19::u20::u21::u22::u23::u24::u25::u26::u27::u28::u29::u30::u31::u32::u33::u34::u35::u36::u37::u38::u39::u40::u41::u42::u43::u44::u45::u46::u47::u48::u49::u50::u51::u52::u53::u54::u55::u56::u57::u58::u59::u60::u61::u62::u63::u64::u65::u66::u67::u68::u69::u70::u71::u72::u73::u74::u75::u76::u77::u78::u79::u80::u81::u82::u83::u84::u85::u86::u87::u88::u89::u90::u91::u92::u93::u94::u95::u96::u97::u98::u99::u100::u101::u102::u103::u104::u105::u106::u107::u108::u109::u110::u111::u112::u113::u114::u115::u116::u117::u118::u119::u120::u121::u122::u123::u124::u125::u126::u127::u128::u129::u130::u131::u132::u133::u134::u135::u136::u137::u138::u139::u140::u141::u142::u143::u144::u145::u146::u147::u148::u149::u150::u151::u152::u153::u154::u155::u156::u157::u158::u159::u160::u161::u162::u163::u164::u165::u166::u167::u168::u169::u170::u171::u172::u173::u174::u175::u176::u177::u178::u179::u180::u181::u182::u183::u184::u185::u186::u187::u188::u189::u190::u191::u192::u193::u194::u195::u196::u197::u198::u199::u200::u201::u202::u203::u204::u205::u206::u207::u208::u209::u210::u211::u212::u213::u214::u215::u216::u217::u218::u219::u220::u221::u222::u223::u224::u225::u226::u227::u228::u229::u230::u231::u232::u233::u234::u235::u236::u237::u238::u239::u240::u241::u242::u243::u244::u245::u246::u247::u248::u249::u250::u251::u252::u253::u254::u255::u256::u257::u258::u259::u260::u261::[]).toArray, []⟩ w := by
  conv => arg 2; whnf
  have HE := Lib.hid (fun W => end_any line W (by omega))
  have hE := endL_le (bl line)
  rw [bl_len] at hE
  have HC := Lib.hid (bl_cut line)
  obtain ⟨E, hEE⟩ : ∃ E, endL (bl line) = E := ⟨_, rfl⟩
  rw [hEE] at HE HC hE
  obtain ⟨t, ht⟩ : ∃ t, line.extract 0 E = t := ⟨_, rfl⟩
  rw [ht] at HC
  have hts : t.size = E := by rw [← ht, ByteArray.size_extract]; omega
  have HTS := Lib.hid (show (t.size : Int) ≤ 1000000 by omega)
  have hgoal : scanE (bl line) a m d = scanC (max a 0).toNat ((bl t).drop (max a 0).toNat) (st0 m d) := by
    unfold scanE
    rw [hEE, ← HC.out, scanL_eq]
  have HGL := Lib.hid hgoal
  have HS0 := Lib.hid (st0_ok m d)
  have k1 : (0 : Int) ≤ E := by omega
  have k2 : (E : Int) ≤ line.size := by omega
  have HQ := Lib.hid hQ
  have m4 : ¬ (m : Int) ≤ 4 := by omega
  have m4d : decide ((m : Int) ≤ 4) = false := decide_eq_false m4
  have m4' : (4 : Int) < m := by omega
  have d0 : ¬ d < 0 := by omega
  have d0d : decide (d < 0) = false := decide_eq_false d0
  have d1 : ¬ (1048576 : Int) < d := by omega
  have d1d : decide ((1048576 : Int) < d) = false := decide_eq_false d1
  have a0 : max a 0 = a := by omega
  have a0d : ¬ a < 0 := by omega
  have HI := Lib.hid (show (((max a 0).toNat : Nat) : Int) = a by omega)
  have HST := Lib.hid (show st0 m d = ⟨0, d, false, false, false⟩ by unfold st0 markE depE; rw [if_neg hm, if_neg (by omega), if_neg (by omega)])
  clear hm hd ha
  clear hgoal hEE hE hts hs hQ
  go_wp2_with (go_at_call 16; ((with_reducible refine (HE.out _).mono ?_); rintro e w1 ⟨rfl, rfl⟩))
  refine loop11 w t (w.heap.size + 1) w.heap.size (scanE (bl line) a m d) HTS.out _ ?hQ _ _ (max a 0).toNat (.slice none 0 0) [] (st0 m d) ?hF ?hO ?hR HS0.out (Nat.zero_le _)
  case hF => exact ⟨rfl, rfl, rfl, rfl, rfl, by rw [HI.out]; rfl⟩
  case hO => rw [HST.out]; exact out_start w _ _ _ _ _ _ ⟨0, d, false, false, false⟩
  case hR => unfold Rest; rw [← HGL.out]; rfl
  intro x W' v' p' hF hO
  obtain ⟨f, rfl⟩ := fr_open hF
  have HGR := Lib.hid (rfl : scanE (bl line) a m d = scanE (bl line) a m d)
  generalize hRR : scanE (bl line) a m d = RR at hO
  obtain ⟨es', st'⟩ := RR
  dsimp only at hO
  obtain ⟨A', cc', rfl⟩ := own_slice hO.row
  have c0 := hO.cell (k := 0) (show _ = some (.slice A' es'.length cc') from rfl)
  have c1 := hO.cell (k := 1) (show _ = some (.int .u8 (st'.mark : Nat)) from rfl)
  have c2 := hO.cell (k := 2) (show _ = some (.int .i64 st'.depth) from rfl)
  have c3 := hO.cell (k := 3) (show _ = some (.bool st'.j) from rfl)
  have c4 := hO.cell (k := 4) (show _ = some (.bool st'.s) from rfl)
  have c5 := hO.cell (k := 5) (show _ = some (.bool st'.c) from rfl)
  obtain ⟨x0, x1, x2, x3, x4, x5, hr⟩ := hO.res
  have y0 : W'.cell? ⟨w.heap.size, 0, none⟩ = some x0 := cellOf hr rfl
  have y1 : W'.cell? ⟨w.heap.size, 1, none⟩ = some x1 := cellOf hr rfl
  have y2 : W'.cell? ⟨w.heap.size, 2, none⟩ = some x2 := cellOf hr rfl
  have y3 : W'.cell? ⟨w.heap.size, 3, none⟩ = some x3 := cellOf hr rfl
  have y4 : W'.cell? ⟨w.heap.size, 4, none⟩ = some x4 := cellOf hr rfl
  have y5 : W'.cell? ⟨w.heap.size, 5, none⟩ = some x5 := cellOf hr rfl
  have z0 : W'.frozen? ⟨w.heap.size, 0, none⟩ = false := frozenOf hr
  have z1 : W'.frozen? ⟨w.heap.size, 1, none⟩ = false := frozenOf hr
  have z2 : W'.frozen? ⟨w.heap.size, 2, none⟩ = false := frozenOf hr
  have z3 : W'.frozen? ⟨w.heap.size, 3, none⟩ = false := frozenOf hr
  have z4 : W'.frozen? ⟨w.heap.size, 4, none⟩ = false := frozenOf hr
  have z5 : W'.frozen? ⟨w.heap.size, 5, none⟩ = false := frozenOf hr
  have HO := Lib.hid hO
  have HR := Lib.hid hr
  have HRR := Lib.hid hRR
  clear hO hF hr hRR HGR
  go_wp2
  have hq := HQ.out
  unfold PreQ at hq
  rw [HRR.out] at hq
  have hg : ∀ q, (Value.slice A' es'.length cc').ownBlock = some q → q ≠ w.heap.size := fun q e => (HO.out.apart e).2
  exact hq _ _ _ rfl rfl (set6 HR.out) (row_apart (row_apart (row_apart (row_apart (row_apart (row_apart HO.out.row hg) hg) hg) hg) hg) hg) (up_set (up_set (up_set (up_set (up_set (up_set HO.out.up))))))
set_option maxRecDepth 1000000 in
set_option maxHeartbeats 8000000 in
theorem pre_bab (w : World) (line : ByteArray) (a : Int) (m : Nat) (d : Int) (hs : (line.size : Int) ≤ 100000) (hm : ¬ m ≤ 4) (hd : 0 ≤ d ∧ d ≤ 1048576) (ha : a < 0) (Q : Exit → Act → World → Prop) (hQ : PreQ w line a m d Q) (u4 u5 u6 u7 u8 u9 u10 u11 u12 u13 u14 u15 u16 u17 u18 u19 u20 u21 u22 u23 u24 u25 u26 u27 u28 u29 u30 u31 u32 u33 u34 u35 u36 u37 u38 u39 u40 u41 u42 u43 u44 u45 u46 u47 u48 u49 u50 u51 u52 u53 u54 u55 u56 u57 u58 u59 u60 u61 u62 u63 u64 u65 u66 u67 u68 u69 u70 u71 u72 u73 u74 u75 u76 u77 u78 u79 u80 u81 u82 u83 u84 u85 u86 u87 u88 u89 u90 u91 u92 u93 u94 u95 u96 u97 u98 u99 u100 u101 u102 u103 u104 u105 u106 u107 u108 u109 u110 u111 u112 u113 u114 u115 u116 u117 u118 u119 u120 u121 u122 u123 u124 u125 u126 u127 u128 u129 u130 u131 u132 u133 u134 u135 u136 u137 u138 u139 u140 u141 u142 u143 u144 u145 u146 u147 u148 u149 u150 u151 u152 u153 u154 u155 u156 u157 u158 u159 u160 u161 u162 u163 u164 u165 u166 u167 u168 u169 u170 u171 u172 u173 u174 u175 u176 u177 u178 u179 u180 u181 u182 u183 u184 u185 u186 u187 u188 u189 u190 u191 u192 u193 u194 u195 u196 u197 u198 u199 u200 u201 u202 u203 u204 u205 u206 u207 u208 u209 u210 u211 u212 u213 u214 u215 u216 u217 u218 u219 u220 u221 u222 u223 u224 u225 u226 u227 u228 u229 u230 u231 u232 u233 u234 u235 u236 u237 u238 u239 u240 u241 u242 u243 u244 u245 u246 u247 u248 u249 u250 u251 u252 u253 u254 u255 u256 u257 u258 u259 u260 u261 : Value) :
    Code.wp Tryz.prog scanAll Q ⟨((Value.string line)::(Value.int .i64 a)::(Value.int .u8 (m : Nat))::(Value.int .i64 d)::u4::u5::u6::u7::u8::u9::u10::u11::u12::u13::u14::u15::u16::u17::u18::u19::u20::u21::u22::u23::u24::u25::u26::u27::u28::u29::u30::u31::u32::u33::u34::u35::u36::u37::u38::u39::u40::u41::u42::u43::u44::u45::u46::u47::u48::u49::u50::u51::u52::u53::u54::u55::u56::u57::u58::u59::u60::u61::u62::u63::u64::u65::u66::u67::u68::u69::u70::u71::u72::u73::u74::u75::u76::u77::u78::u79::u80::u81::u82::u83::u84::u85::u86::u87::u88::u89::u90::u91::u92::u93::u94::u95::u96::u97::u98::u99::u100::u101::u102::u103::u104::u105::u106::u107::u108::u109::u110::u111::u112::u113::u114::u115::u116::u117::u118::u119::u120::u121::u122::u123::u124::u125::u126::u127::u128::u129::u130::u131::u132::u133::u134::u135::u136::u137::u138::u139::u140::u141::u142::u143::u144::u145::u146::u147::u148::u149::u150::u151::u152::u153::u154::u155::u156::u157::u158::u159::u160::u161::u162::u163::u164::u165::u166::u167::u168::u169::u170::u171::u172::u173::u174::u175::u176::u177::u178::u179::u180::u181::u182::u183::u184::u185::u186::u187::u188::u189::u190::u191::u192::u193::u194::u195::u196::u197::u198::u199::u200::u201::u202::u203::u204::u205::u206::u207::u208::u209::u210::u211::u212::u213::u214::u215::u216::u217::u218::u219::u220::u221::u222::u223::u224::u225::u226::u227::u228::u229::u230::u231::u232::u233::u234::u235::u236::u237::u238::u239::u240::u241::u242::u243::u244::u245::u246::u247::u248::u249::u250::u251::u252::u253::u254::u255::u256::u257::u258::u259::u260::u261::[]).toArray, []⟩ w := by
  conv => arg 2; whnf
  have HE := Lib.hid (fun W => end_any line W (by omega))
  have hE := endL_le (bl line)
  rw [bl_len] at hE
  have HC := Lib.hid (bl_cut line)
  obtain ⟨E, hEE⟩ : ∃ E, endL (bl line) = E := ⟨_, rfl⟩
  rw [hEE] at HE HC hE
  obtain ⟨t, ht⟩ : ∃ t, line.extract 0 E = t := ⟨_, rfl⟩
  rw [ht] at HC
  have hts : t.size = E := by rw [← ht, ByteArray.size_extract]; omega
  have HTS := Lib.hid (show (t.size : Int) ≤ 1000000 by omega)
  have hgoal : scanE (bl line) a m d = scanC (max a 0).toNat ((bl t).drop (max a 0).toNat) (st0 m d) := by
    unfold scanE
    rw [hEE, ← HC.out, scanL_eq]
  have HGL := Lib.hid hgoal
  have HS0 := Lib.hid (st0_ok m d)
  have k1 : (0 : Int) ≤ E := by omega
  have k2 : (E : Int) ≤ line.size := by omega
  have HQ := Lib.hid hQ
  have m4 : ¬ (m : Int) ≤ 4 := by omega
  have m4d : decide ((m : Int) ≤ 4) = false := decide_eq_false m4
  have m4' : (4 : Int) < m := by omega
  have d0 : ¬ d < 0 := by omega
  have d0d : decide (d < 0) = false := decide_eq_false d0
  have d1 : ¬ (1048576 : Int) < d := by omega
  have d1d : decide ((1048576 : Int) < d) = false := decide_eq_false d1
  have a0 : max a 0 = 0 := by omega
  have a0d : a < 0 := by omega
  have HI := Lib.hid (show (((max a 0).toNat : Nat) : Int) = 0 by omega)
  have HST := Lib.hid (show st0 m d = ⟨0, d, false, false, false⟩ by unfold st0 markE depE; rw [if_neg hm, if_neg (by omega), if_neg (by omega)])
  clear hm hd ha
  clear hgoal hEE hE hts hs hQ
  go_wp2_with (go_at_call 16; ((with_reducible refine (HE.out _).mono ?_); rintro e w1 ⟨rfl, rfl⟩))
  refine loop11 w t (w.heap.size + 1) w.heap.size (scanE (bl line) a m d) HTS.out _ ?hQ _ _ (max a 0).toNat (.slice none 0 0) [] (st0 m d) ?hF ?hO ?hR HS0.out (Nat.zero_le _)
  case hF => exact ⟨rfl, rfl, rfl, rfl, rfl, by rw [HI.out]; rfl⟩
  case hO => rw [HST.out]; exact out_start w _ _ _ _ _ _ ⟨0, d, false, false, false⟩
  case hR => unfold Rest; rw [← HGL.out]; rfl
  intro x W' v' p' hF hO
  obtain ⟨f, rfl⟩ := fr_open hF
  have HGR := Lib.hid (rfl : scanE (bl line) a m d = scanE (bl line) a m d)
  generalize hRR : scanE (bl line) a m d = RR at hO
  obtain ⟨es', st'⟩ := RR
  dsimp only at hO
  obtain ⟨A', cc', rfl⟩ := own_slice hO.row
  have c0 := hO.cell (k := 0) (show _ = some (.slice A' es'.length cc') from rfl)
  have c1 := hO.cell (k := 1) (show _ = some (.int .u8 (st'.mark : Nat)) from rfl)
  have c2 := hO.cell (k := 2) (show _ = some (.int .i64 st'.depth) from rfl)
  have c3 := hO.cell (k := 3) (show _ = some (.bool st'.j) from rfl)
  have c4 := hO.cell (k := 4) (show _ = some (.bool st'.s) from rfl)
  have c5 := hO.cell (k := 5) (show _ = some (.bool st'.c) from rfl)
  obtain ⟨x0, x1, x2, x3, x4, x5, hr⟩ := hO.res
  have y0 : W'.cell? ⟨w.heap.size, 0, none⟩ = some x0 := cellOf hr rfl
  have y1 : W'.cell? ⟨w.heap.size, 1, none⟩ = some x1 := cellOf hr rfl
  have y2 : W'.cell? ⟨w.heap.size, 2, none⟩ = some x2 := cellOf hr rfl
  have y3 : W'.cell? ⟨w.heap.size, 3, none⟩ = some x3 := cellOf hr rfl
  have y4 : W'.cell? ⟨w.heap.size, 4, none⟩ = some x4 := cellOf hr rfl
  have y5 : W'.cell? ⟨w.heap.size, 5, none⟩ = some x5 := cellOf hr rfl
  have z0 : W'.frozen? ⟨w.heap.size, 0, none⟩ = false := frozenOf hr
  have z1 : W'.frozen? ⟨w.heap.size, 1, none⟩ = false := frozenOf hr
  have z2 : W'.frozen? ⟨w.heap.size, 2, none⟩ = false := frozenOf hr
  have z3 : W'.frozen? ⟨w.heap.size, 3, none⟩ = false := frozenOf hr
  have z4 : W'.frozen? ⟨w.heap.size, 4, none⟩ = false := frozenOf hr
  have z5 : W'.frozen? ⟨w.heap.size, 5, none⟩ = false := frozenOf hr
  have HO := Lib.hid hO
  have HR := Lib.hid hr
  have HRR := Lib.hid hRR
  clear hO hF hr hRR HGR
  go_wp2
  have hq := HQ.out
  unfold PreQ at hq
  rw [HRR.out] at hq
  have hg : ∀ q, (Value.slice A' es'.length cc').ownBlock = some q → q ≠ w.heap.size := fun q e => (HO.out.apart e).2
  exact hq _ _ _ rfl rfl (set6 HR.out) (row_apart (row_apart (row_apart (row_apart (row_apart (row_apart HO.out.row hg) hg) hg) hg) hg) hg) (up_set (up_set (up_set (up_set (up_set (up_set HO.out.up))))))
set_option maxRecDepth 1000000 in
set_option maxHeartbeats 8000000 in
theorem pre_bba (w : World) (line : ByteArray) (a : Int) (m : Nat) (d : Int) (hs : (line.size : Int) ≤ 100000) (hm : ¬ m ≤ 4) (hd : d < 0) (ha : 0 ≤ a) (Q : Exit → Act → World → Prop) (hQ : PreQ w line a m d Q) (u4 u5 u6 u7 u8 u9 u10 u11 u12 u13 u14 u15 u16 u17 u18 u19 u20 u21 u22 u23 u24 u25 u26 u27 u28 u29 u30 u31 u32 u33 u34 u35 u36 u37 u38 u39 u40 u41 u42 u43 u44 u45 u46 u47 u48 u49 u50 u51 u52 u53 u54 u55 u56 u57 u58 u59 u60 u61 u62 u63 u64 u65 u66 u67 u68 u69 u70 u71 u72 u73 u74 u75 u76 u77 u78 u79 u80 u81 u82 u83 u84 u85 u86 u87 u88 u89 u90 u91 u92 u93 u94 u95 u96 u97 u98 u99 u100 u101 u102 u103 u104 u105 u106 u107 u108 u109 u110 u111 u112 u113 u114 u115 u116 u117 u118 u119 u120 u121 u122 u123 u124 u125 u126 u127 u128 u129 u130 u131 u132 u133 u134 u135 u136 u137 u138 u139 u140 u141 u142 u143 u144 u145 u146 u147 u148 u149 u150 u151 u152 u153 u154 u155 u156 u157 u158 u159 u160 u161 u162 u163 u164 u165 u166 u167 u168 u169 u170 u171 u172 u173 u174 u175 u176 u177 u178 u179 u180 u181 u182 u183 u184 u185 u186 u187 u188 u189 u190 u191 u192 u193 u194 u195 u196 u197 u198 u199 u200 u201 u202 u203 u204 u205 u206 u207 u208 u209 u210 u211 u212 u213 u214 u215 u216 u217 u218 u219 u220 u221 u222 u223 u224 u225 u226 u227 u228 u229 u230 u231 u232 u233 u234 u235 u236 u237 u238 u239 u240 u241 u242 u243 u244 u245 u246 u247 u248 u249 u250 u251 u252 u253 u254 u255 u256 u257 u258 u259 u260 u261 : Value) :
    Code.wp Tryz.prog scanAll Q ⟨((Value.string line)::(Value.int .i64 a)::(Value.int .u8 (m : Nat))::(Value.int .i64 d)::u4::u5::u6::u7::u8::u9::u10::u11::u12::u13::u14::u15::u16::u17::u18::u19::u20::u21::u22::u23::u24::u25::u26::u27::u28::u29::u30::u31::u32::u33::u34::u35::u36::u37::u38::u39::u40::u41::u42::u43::u44::u45::u46::u47::u48::u49::u50::u51::u52::u53::u54::u55::u56::u57::u58::u59::u60::u61::u62::u63::u64::u65::u66::u67::u68::u69::u70::u71::u72::u73::u74::u75::u76::u77::u78::u79::u80::u81::u82::u83::u84::u85::u86::u87::u88::u89::u90::u91::u92::u93::u94::u95::u96::u97::u98::u99::u100::u101::u102::u103::u104::u105::u106::u107::u108::u109::u110::u111::u112::u113::u114::u115::u116::u117::u118::u119::u120::u121::u122::u123::u124::u125::u126::u127::u128::u129::u130::u131::u132::u133::u134::u135::u136::u137::u138::u139::u140::u141::u142::u143::u144::u145::u146::u147::u148::u149::u150::u151::u152::u153::u154::u155::u156::u157::u158::u159::u160::u161::u162::u163::u164::u165::u166::u167::u168::u169::u170::u171::u172::u173::u174::u175::u176::u177::u178::u179::u180::u181::u182::u183::u184::u185::u186::u187::u188::u189::u190::u191::u192::u193::u194::u195::u196::u197::u198::u199::u200::u201::u202::u203::u204::u205::u206::u207::u208::u209::u210::u211::u212::u213::u214::u215::u216::u217::u218::u219::u220::u221::u222::u223::u224::u225::u226::u227::u228::u229::u230::u231::u232::u233::u234::u235::u236::u237::u238::u239::u240::u241::u242::u243::u244::u245::u246::u247::u248::u249::u250::u251::u252::u253::u254::u255::u256::u257::u258::u259::u260::u261::[]).toArray, []⟩ w := by
  conv => arg 2; whnf
  have HE := Lib.hid (fun W => end_any line W (by omega))
  have hE := endL_le (bl line)
  rw [bl_len] at hE
  have HC := Lib.hid (bl_cut line)
  obtain ⟨E, hEE⟩ : ∃ E, endL (bl line) = E := ⟨_, rfl⟩
  rw [hEE] at HE HC hE
  obtain ⟨t, ht⟩ : ∃ t, line.extract 0 E = t := ⟨_, rfl⟩
  rw [ht] at HC
  have hts : t.size = E := by rw [← ht, ByteArray.size_extract]; omega
  have HTS := Lib.hid (show (t.size : Int) ≤ 1000000 by omega)
  have hgoal : scanE (bl line) a m d = scanC (max a 0).toNat ((bl t).drop (max a 0).toNat) (st0 m d) := by
    unfold scanE
    rw [hEE, ← HC.out, scanL_eq]
  have HGL := Lib.hid hgoal
  have HS0 := Lib.hid (st0_ok m d)
  have k1 : (0 : Int) ≤ E := by omega
  have k2 : (E : Int) ≤ line.size := by omega
  have HQ := Lib.hid hQ
  have m4 : ¬ (m : Int) ≤ 4 := by omega
  have m4d : decide ((m : Int) ≤ 4) = false := decide_eq_false m4
  have m4' : (4 : Int) < m := by omega
  have d0 : d < 0 := hd
  have d0d : decide (d < 0) = true := decide_eq_true d0
  have d1 : ¬ (1048576 : Int) < d := by omega
  have d1d : decide ((1048576 : Int) < d) = false := decide_eq_false d1
  have a0 : max a 0 = a := by omega
  have a0d : ¬ a < 0 := by omega
  have HI := Lib.hid (show (((max a 0).toNat : Nat) : Int) = a by omega)
  have HST := Lib.hid (show st0 m d = ⟨0, 0, false, false, false⟩ by unfold st0 markE depE; rw [if_neg hm, if_pos hd])
  clear hm hd ha
  clear hgoal hEE hE hts hs hQ
  go_wp2_with (go_at_call 16; ((with_reducible refine (HE.out _).mono ?_); rintro e w1 ⟨rfl, rfl⟩))
  refine loop11 w t (w.heap.size + 1) w.heap.size (scanE (bl line) a m d) HTS.out _ ?hQ _ _ (max a 0).toNat (.slice none 0 0) [] (st0 m d) ?hF ?hO ?hR HS0.out (Nat.zero_le _)
  case hF => exact ⟨rfl, rfl, rfl, rfl, rfl, by rw [HI.out]; rfl⟩
  case hO => rw [HST.out]; exact out_start w _ _ _ _ _ _ ⟨0, 0, false, false, false⟩
  case hR => unfold Rest; rw [← HGL.out]; rfl
  intro x W' v' p' hF hO
  obtain ⟨f, rfl⟩ := fr_open hF
  have HGR := Lib.hid (rfl : scanE (bl line) a m d = scanE (bl line) a m d)
  generalize hRR : scanE (bl line) a m d = RR at hO
  obtain ⟨es', st'⟩ := RR
  dsimp only at hO
  obtain ⟨A', cc', rfl⟩ := own_slice hO.row
  have c0 := hO.cell (k := 0) (show _ = some (.slice A' es'.length cc') from rfl)
  have c1 := hO.cell (k := 1) (show _ = some (.int .u8 (st'.mark : Nat)) from rfl)
  have c2 := hO.cell (k := 2) (show _ = some (.int .i64 st'.depth) from rfl)
  have c3 := hO.cell (k := 3) (show _ = some (.bool st'.j) from rfl)
  have c4 := hO.cell (k := 4) (show _ = some (.bool st'.s) from rfl)
  have c5 := hO.cell (k := 5) (show _ = some (.bool st'.c) from rfl)
  obtain ⟨x0, x1, x2, x3, x4, x5, hr⟩ := hO.res
  have y0 : W'.cell? ⟨w.heap.size, 0, none⟩ = some x0 := cellOf hr rfl
  have y1 : W'.cell? ⟨w.heap.size, 1, none⟩ = some x1 := cellOf hr rfl
  have y2 : W'.cell? ⟨w.heap.size, 2, none⟩ = some x2 := cellOf hr rfl
  have y3 : W'.cell? ⟨w.heap.size, 3, none⟩ = some x3 := cellOf hr rfl
  have y4 : W'.cell? ⟨w.heap.size, 4, none⟩ = some x4 := cellOf hr rfl
  have y5 : W'.cell? ⟨w.heap.size, 5, none⟩ = some x5 := cellOf hr rfl
  have z0 : W'.frozen? ⟨w.heap.size, 0, none⟩ = false := frozenOf hr
  have z1 : W'.frozen? ⟨w.heap.size, 1, none⟩ = false := frozenOf hr
  have z2 : W'.frozen? ⟨w.heap.size, 2, none⟩ = false := frozenOf hr
  have z3 : W'.frozen? ⟨w.heap.size, 3, none⟩ = false := frozenOf hr
  have z4 : W'.frozen? ⟨w.heap.size, 4, none⟩ = false := frozenOf hr
  have z5 : W'.frozen? ⟨w.heap.size, 5, none⟩ = false := frozenOf hr
  have HO := Lib.hid hO
  have HR := Lib.hid hr
  have HRR := Lib.hid hRR
  clear hO hF hr hRR HGR
  go_wp2
  have hq := HQ.out
  unfold PreQ at hq
  rw [HRR.out] at hq
  have hg : ∀ q, (Value.slice A' es'.length cc').ownBlock = some q → q ≠ w.heap.size := fun q e => (HO.out.apart e).2
  exact hq _ _ _ rfl rfl (set6 HR.out) (row_apart (row_apart (row_apart (row_apart (row_apart (row_apart HO.out.row hg) hg) hg) hg) hg) hg) (up_set (up_set (up_set (up_set (up_set (up_set HO.out.up))))))
set_option maxRecDepth 1000000 in
set_option maxHeartbeats 8000000 in
theorem pre_bbb (w : World) (line : ByteArray) (a : Int) (m : Nat) (d : Int) (hs : (line.size : Int) ≤ 100000) (hm : ¬ m ≤ 4) (hd : d < 0) (ha : a < 0) (Q : Exit → Act → World → Prop) (hQ : PreQ w line a m d Q) (u4 u5 u6 u7 u8 u9 u10 u11 u12 u13 u14 u15 u16 u17 u18 u19 u20 u21 u22 u23 u24 u25 u26 u27 u28 u29 u30 u31 u32 u33 u34 u35 u36 u37 u38 u39 u40 u41 u42 u43 u44 u45 u46 u47 u48 u49 u50 u51 u52 u53 u54 u55 u56 u57 u58 u59 u60 u61 u62 u63 u64 u65 u66 u67 u68 u69 u70 u71 u72 u73 u74 u75 u76 u77 u78 u79 u80 u81 u82 u83 u84 u85 u86 u87 u88 u89 u90 u91 u92 u93 u94 u95 u96 u97 u98 u99 u100 u101 u102 u103 u104 u105 u106 u107 u108 u109 u110 u111 u112 u113 u114 u115 u116 u117 u118 u119 u120 u121 u122 u123 u124 u125 u126 u127 u128 u129 u130 u131 u132 u133 u134 u135 u136 u137 u138 u139 u140 u141 u142 u143 u144 u145 u146 u147 u148 u149 u150 u151 u152 u153 u154 u155 u156 u157 u158 u159 u160 u161 u162 u163 u164 u165 u166 u167 u168 u169 u170 u171 u172 u173 u174 u175 u176 u177 u178 u179 u180 u181 u182 u183 u184 u185 u186 u187 u188 u189 u190 u191 u192 u193 u194 u195 u196 u197 u198 u199 u200 u201 u202 u203 u204 u205 u206 u207 u208 u209 u210 u211 u212 u213 u214 u215 u216 u217 u218 u219 u220 u221 u222 u223 u224 u225 u226 u227 u228 u229 u230 u231 u232 u233 u234 u235 u236 u237 u238 u239 u240 u241 u242 u243 u244 u245 u246 u247 u248 u249 u250 u251 u252 u253 u254 u255 u256 u257 u258 u259 u260 u261 : Value) :
    Code.wp Tryz.prog scanAll Q ⟨((Value.string line)::(Value.int .i64 a)::(Value.int .u8 (m : Nat))::(Value.int .i64 d)::u4::u5::u6::u7::u8::u9::u10::u11::u12::u13::u14::u15::u16::u17::u18::u19::u20::u21::u22::u23::u24::u25::u26::u27::u28::u29::u30::u31::u32::u33::u34::u35::u36::u37::u38::u39::u40::u41::u42::u43::u44::u45::u46::u47::u48::u49::u50::u51::u52::u53::u54::u55::u56::u57::u58::u59::u60::u61::u62::u63::u64::u65::u66::u67::u68::u69::u70::u71::u72::u73::u74::u75::u76::u77::u78::u79::u80::u81::u82::u83::u84::u85::u86::u87::u88::u89::u90::u91::u92::u93::u94::u95::u96::u97::u98::u99::u100::u101::u102::u103::u104::u105::u106::u107::u108::u109::u110::u111::u112::u113::u114::u115::u116::u117::u118::u119::u120::u121::u122::u123::u124::u125::u126::u127::u128::u129::u130::u131::u132::u133::u134::u135::u136::u137::u138::u139::u140::u141::u142::u143::u144::u145::u146::u147::u148::u149::u150::u151::u152::u153::u154::u155::u156::u157::u158::u159::u160::u161::u162::u163::u164::u165::u166::u167::u168::u169::u170::u171::u172::u173::u174::u175::u176::u177::u178::u179::u180::u181::u182::u183::u184::u185::u186::u187::u188::u189::u190::u191::u192::u193::u194::u195::u196::u197::u198::u199::u200::u201::u202::u203::u204::u205::u206::u207::u208::u209::u210::u211::u212::u213::u214::u215::u216::u217::u218::u219::u220::u221::u222::u223::u224::u225::u226::u227::u228::u229::u230::u231::u232::u233::u234::u235::u236::u237::u238::u239::u240::u241::u242::u243::u244::u245::u246::u247::u248::u249::u250::u251::u252::u253::u254::u255::u256::u257::u258::u259::u260::u261::[]).toArray, []⟩ w := by
  conv => arg 2; whnf
  have HE := Lib.hid (fun W => end_any line W (by omega))
  have hE := endL_le (bl line)
  rw [bl_len] at hE
  have HC := Lib.hid (bl_cut line)
  obtain ⟨E, hEE⟩ : ∃ E, endL (bl line) = E := ⟨_, rfl⟩
  rw [hEE] at HE HC hE
  obtain ⟨t, ht⟩ : ∃ t, line.extract 0 E = t := ⟨_, rfl⟩
  rw [ht] at HC
  have hts : t.size = E := by rw [← ht, ByteArray.size_extract]; omega
  have HTS := Lib.hid (show (t.size : Int) ≤ 1000000 by omega)
  have hgoal : scanE (bl line) a m d = scanC (max a 0).toNat ((bl t).drop (max a 0).toNat) (st0 m d) := by
    unfold scanE
    rw [hEE, ← HC.out, scanL_eq]
  have HGL := Lib.hid hgoal
  have HS0 := Lib.hid (st0_ok m d)
  have k1 : (0 : Int) ≤ E := by omega
  have k2 : (E : Int) ≤ line.size := by omega
  have HQ := Lib.hid hQ
  have m4 : ¬ (m : Int) ≤ 4 := by omega
  have m4d : decide ((m : Int) ≤ 4) = false := decide_eq_false m4
  have m4' : (4 : Int) < m := by omega
  have d0 : d < 0 := hd
  have d0d : decide (d < 0) = true := decide_eq_true d0
  have d1 : ¬ (1048576 : Int) < d := by omega
  have d1d : decide ((1048576 : Int) < d) = false := decide_eq_false d1
  have a0 : max a 0 = 0 := by omega
  have a0d : a < 0 := by omega
  have HI := Lib.hid (show (((max a 0).toNat : Nat) : Int) = 0 by omega)
  have HST := Lib.hid (show st0 m d = ⟨0, 0, false, false, false⟩ by unfold st0 markE depE; rw [if_neg hm, if_pos hd])
  clear hm hd ha
  clear hgoal hEE hE hts hs hQ
  go_wp2_with (go_at_call 16; ((with_reducible refine (HE.out _).mono ?_); rintro e w1 ⟨rfl, rfl⟩))
  refine loop11 w t (w.heap.size + 1) w.heap.size (scanE (bl line) a m d) HTS.out _ ?hQ _ _ (max a 0).toNat (.slice none 0 0) [] (st0 m d) ?hF ?hO ?hR HS0.out (Nat.zero_le _)
  case hF => exact ⟨rfl, rfl, rfl, rfl, rfl, by rw [HI.out]; rfl⟩
  case hO => rw [HST.out]; exact out_start w _ _ _ _ _ _ ⟨0, 0, false, false, false⟩
  case hR => unfold Rest; rw [← HGL.out]; rfl
  intro x W' v' p' hF hO
  obtain ⟨f, rfl⟩ := fr_open hF
  have HGR := Lib.hid (rfl : scanE (bl line) a m d = scanE (bl line) a m d)
  generalize hRR : scanE (bl line) a m d = RR at hO
  obtain ⟨es', st'⟩ := RR
  dsimp only at hO
  obtain ⟨A', cc', rfl⟩ := own_slice hO.row
  have c0 := hO.cell (k := 0) (show _ = some (.slice A' es'.length cc') from rfl)
  have c1 := hO.cell (k := 1) (show _ = some (.int .u8 (st'.mark : Nat)) from rfl)
  have c2 := hO.cell (k := 2) (show _ = some (.int .i64 st'.depth) from rfl)
  have c3 := hO.cell (k := 3) (show _ = some (.bool st'.j) from rfl)
  have c4 := hO.cell (k := 4) (show _ = some (.bool st'.s) from rfl)
  have c5 := hO.cell (k := 5) (show _ = some (.bool st'.c) from rfl)
  obtain ⟨x0, x1, x2, x3, x4, x5, hr⟩ := hO.res
  have y0 : W'.cell? ⟨w.heap.size, 0, none⟩ = some x0 := cellOf hr rfl
  have y1 : W'.cell? ⟨w.heap.size, 1, none⟩ = some x1 := cellOf hr rfl
  have y2 : W'.cell? ⟨w.heap.size, 2, none⟩ = some x2 := cellOf hr rfl
  have y3 : W'.cell? ⟨w.heap.size, 3, none⟩ = some x3 := cellOf hr rfl
  have y4 : W'.cell? ⟨w.heap.size, 4, none⟩ = some x4 := cellOf hr rfl
  have y5 : W'.cell? ⟨w.heap.size, 5, none⟩ = some x5 := cellOf hr rfl
  have z0 : W'.frozen? ⟨w.heap.size, 0, none⟩ = false := frozenOf hr
  have z1 : W'.frozen? ⟨w.heap.size, 1, none⟩ = false := frozenOf hr
  have z2 : W'.frozen? ⟨w.heap.size, 2, none⟩ = false := frozenOf hr
  have z3 : W'.frozen? ⟨w.heap.size, 3, none⟩ = false := frozenOf hr
  have z4 : W'.frozen? ⟨w.heap.size, 4, none⟩ = false := frozenOf hr
  have z5 : W'.frozen? ⟨w.heap.size, 5, none⟩ = false := frozenOf hr
  have HO := Lib.hid hO
  have HR := Lib.hid hr
  have HRR := Lib.hid hRR
  clear hO hF hr hRR HGR
  go_wp2
  have hq := HQ.out
  unfold PreQ at hq
  rw [HRR.out] at hq
  have hg : ∀ q, (Value.slice A' es'.length cc').ownBlock = some q → q ≠ w.heap.size := fun q e => (HO.out.apart e).2
  exact hq _ _ _ rfl rfl (set6 HR.out) (row_apart (row_apart (row_apart (row_apart (row_apart (row_apart HO.out.row hg) hg) hg) hg) hg) hg) (up_set (up_set (up_set (up_set (up_set (up_set HO.out.up))))))
set_option maxRecDepth 1000000 in
set_option maxHeartbeats 8000000 in
theorem pre_bca (w : World) (line : ByteArray) (a : Int) (m : Nat) (d : Int) (hs : (line.size : Int) ≤ 100000) (hm : ¬ m ≤ 4) (hd : 1048576 < d) (ha : 0 ≤ a) (Q : Exit → Act → World → Prop) (hQ : PreQ w line a m d Q) (u4 u5 u6 u7 u8 u9 u10 u11 u12 u13 u14 u15 u16 u17 u18 u19 u20 u21 u22 u23 u24 u25 u26 u27 u28 u29 u30 u31 u32 u33 u34 u35 u36 u37 u38 u39 u40 u41 u42 u43 u44 u45 u46 u47 u48 u49 u50 u51 u52 u53 u54 u55 u56 u57 u58 u59 u60 u61 u62 u63 u64 u65 u66 u67 u68 u69 u70 u71 u72 u73 u74 u75 u76 u77 u78 u79 u80 u81 u82 u83 u84 u85 u86 u87 u88 u89 u90 u91 u92 u93 u94 u95 u96 u97 u98 u99 u100 u101 u102 u103 u104 u105 u106 u107 u108 u109 u110 u111 u112 u113 u114 u115 u116 u117 u118 u119 u120 u121 u122 u123 u124 u125 u126 u127 u128 u129 u130 u131 u132 u133 u134 u135 u136 u137 u138 u139 u140 u141 u142 u143 u144 u145 u146 u147 u148 u149 u150 u151 u152 u153 u154 u155 u156 u157 u158 u159 u160 u161 u162 u163 u164 u165 u166 u167 u168 u169 u170 u171 u172 u173 u174 u175 u176 u177 u178 u179 u180 u181 u182 u183 u184 u185 u186 u187 u188 u189 u190 u191 u192 u193 u194 u195 u196 u197 u198 u199 u200 u201 u202 u203 u204 u205 u206 u207 u208 u209 u210 u211 u212 u213 u214 u215 u216 u217 u218 u219 u220 u221 u222 u223 u224 u225 u226 u227 u228 u229 u230 u231 u232 u233 u234 u235 u236 u237 u238 u239 u240 u241 u242 u243 u244 u245 u246 u247 u248 u249 u250 u251 u252 u253 u254 u255 u256 u257 u258 u259 u260 u261 : Value) :
    Code.wp Tryz.prog scanAll Q ⟨((Value.string line)::(Value.int .i64 a)::(Value.int .u8 (m : Nat))::(Value.int .i64 d)::u4::u5::u6::u7::u8::u9::u10::u11::u12::u13::u14::u15::u16::u17::u18::u19::u20::u21::u22::u23::u24::u25::u26::u27::u28::u29::u30::u31::u32::u33::u34::u35::u36::u37::u38::u39::u40::u41::u42::u43::u44::u45::u46::u47::u48::u49::u50::u51::u52::u53::u54::u55::u56::u57::u58::u59::u60::u61::u62::u63::u64::u65::u66::u67::u68::u69::u70::u71::u72::u73::u74::u75::u76::u77::u78::u79::u80::u81::u82::u83::u84::u85::u86::u87::u88::u89::u90::u91::u92::u93::u94::u95::u96::u97::u98::u99::u100::u101::u102::u103::u104::u105::u106::u107::u108::u109::u110::u111::u112::u113::u114::u115::u116::u117::u118::u119::u120::u121::u122::u123::u124::u125::u126::u127::u128::u129::u130::u131::u132::u133::u134::u135::u136::u137::u138::u139::u140::u141::u142::u143::u144::u145::u146::u147::u148::u149::u150::u151::u152::u153::u154::u155::u156::u157::u158::u159::u160::u161::u162::u163::u164::u165::u166::u167::u168::u169::u170::u171::u172::u173::u174::u175::u176::u177::u178::u179::u180::u181::u182::u183::u184::u185::u186::u187::u188::u189::u190::u191::u192::u193::u194::u195::u196::u197::u198::u199::u200::u201::u202::u203::u204::u205::u206::u207::u208::u209::u210::u211::u212::u213::u214::u215::u216::u217::u218::u219::u220::u221::u222::u223::u224::u225::u226::u227::u228::u229::u230::u231::u232::u233::u234::u235::u236::u237::u238::u239::u240::u241::u242::u243::u244::u245::u246::u247::u248::u249::u250::u251::u252::u253::u254::u255::u256::u257::u258::u259::u260::u261::[]).toArray, []⟩ w := by
  conv => arg 2; whnf
  have HE := Lib.hid (fun W => end_any line W (by omega))
  have hE := endL_le (bl line)
  rw [bl_len] at hE
  have HC := Lib.hid (bl_cut line)
  obtain ⟨E, hEE⟩ : ∃ E, endL (bl line) = E := ⟨_, rfl⟩
  rw [hEE] at HE HC hE
  obtain ⟨t, ht⟩ : ∃ t, line.extract 0 E = t := ⟨_, rfl⟩
  rw [ht] at HC
  have hts : t.size = E := by rw [← ht, ByteArray.size_extract]; omega
  have HTS := Lib.hid (show (t.size : Int) ≤ 1000000 by omega)
  have hgoal : scanE (bl line) a m d = scanC (max a 0).toNat ((bl t).drop (max a 0).toNat) (st0 m d) := by
    unfold scanE
    rw [hEE, ← HC.out, scanL_eq]
  have HGL := Lib.hid hgoal
  have HS0 := Lib.hid (st0_ok m d)
  have k1 : (0 : Int) ≤ E := by omega
  have k2 : (E : Int) ≤ line.size := by omega
  have HQ := Lib.hid hQ
  have m4 : ¬ (m : Int) ≤ 4 := by omega
  have m4d : decide ((m : Int) ≤ 4) = false := decide_eq_false m4
  have m4' : (4 : Int) < m := by omega
  have d0 : ¬ d < 0 := by omega
  have d0d : decide (d < 0) = false := decide_eq_false d0
  have d1 : (1048576 : Int) < d := by omega
  have d1d : decide ((1048576 : Int) < d) = true := decide_eq_true d1
  have a0 : max a 0 = a := by omega
  have a0d : ¬ a < 0 := by omega
  have HI := Lib.hid (show (((max a 0).toNat : Nat) : Int) = a by omega)
  have HST := Lib.hid (show st0 m d = ⟨0, 1048576, false, false, false⟩ by unfold st0 markE depE; rw [if_neg hm, if_neg (by omega), if_pos hd])
  clear hm hd ha
  clear hgoal hEE hE hts hs hQ
  go_wp2_with (go_at_call 16; ((with_reducible refine (HE.out _).mono ?_); rintro e w1 ⟨rfl, rfl⟩))
  refine loop11 w t (w.heap.size + 1) w.heap.size (scanE (bl line) a m d) HTS.out _ ?hQ _ _ (max a 0).toNat (.slice none 0 0) [] (st0 m d) ?hF ?hO ?hR HS0.out (Nat.zero_le _)
  case hF => exact ⟨rfl, rfl, rfl, rfl, rfl, by rw [HI.out]; rfl⟩
  case hO => rw [HST.out]; exact out_start w _ _ _ _ _ _ ⟨0, 1048576, false, false, false⟩
  case hR => unfold Rest; rw [← HGL.out]; rfl
  intro x W' v' p' hF hO
  obtain ⟨f, rfl⟩ := fr_open hF
  have HGR := Lib.hid (rfl : scanE (bl line) a m d = scanE (bl line) a m d)
  generalize hRR : scanE (bl line) a m d = RR at hO
  obtain ⟨es', st'⟩ := RR
  dsimp only at hO
  obtain ⟨A', cc', rfl⟩ := own_slice hO.row
  have c0 := hO.cell (k := 0) (show _ = some (.slice A' es'.length cc') from rfl)
  have c1 := hO.cell (k := 1) (show _ = some (.int .u8 (st'.mark : Nat)) from rfl)
  have c2 := hO.cell (k := 2) (show _ = some (.int .i64 st'.depth) from rfl)
  have c3 := hO.cell (k := 3) (show _ = some (.bool st'.j) from rfl)
  have c4 := hO.cell (k := 4) (show _ = some (.bool st'.s) from rfl)
  have c5 := hO.cell (k := 5) (show _ = some (.bool st'.c) from rfl)
  obtain ⟨x0, x1, x2, x3, x4, x5, hr⟩ := hO.res
  have y0 : W'.cell? ⟨w.heap.size, 0, none⟩ = some x0 := cellOf hr rfl
  have y1 : W'.cell? ⟨w.heap.size, 1, none⟩ = some x1 := cellOf hr rfl
  have y2 : W'.cell? ⟨w.heap.size, 2, none⟩ = some x2 := cellOf hr rfl
  have y3 : W'.cell? ⟨w.heap.size, 3, none⟩ = some x3 := cellOf hr rfl
  have y4 : W'.cell? ⟨w.heap.size, 4, none⟩ = some x4 := cellOf hr rfl
  have y5 : W'.cell? ⟨w.heap.size, 5, none⟩ = some x5 := cellOf hr rfl
  have z0 : W'.frozen? ⟨w.heap.size, 0, none⟩ = false := frozenOf hr
  have z1 : W'.frozen? ⟨w.heap.size, 1, none⟩ = false := frozenOf hr
  have z2 : W'.frozen? ⟨w.heap.size, 2, none⟩ = false := frozenOf hr
  have z3 : W'.frozen? ⟨w.heap.size, 3, none⟩ = false := frozenOf hr
  have z4 : W'.frozen? ⟨w.heap.size, 4, none⟩ = false := frozenOf hr
  have z5 : W'.frozen? ⟨w.heap.size, 5, none⟩ = false := frozenOf hr
  have HO := Lib.hid hO
  have HR := Lib.hid hr
  have HRR := Lib.hid hRR
  clear hO hF hr hRR HGR
  go_wp2
  have hq := HQ.out
  unfold PreQ at hq
  rw [HRR.out] at hq
  have hg : ∀ q, (Value.slice A' es'.length cc').ownBlock = some q → q ≠ w.heap.size := fun q e => (HO.out.apart e).2
  exact hq _ _ _ rfl rfl (set6 HR.out) (row_apart (row_apart (row_apart (row_apart (row_apart (row_apart HO.out.row hg) hg) hg) hg) hg) hg) (up_set (up_set (up_set (up_set (up_set (up_set HO.out.up))))))
set_option maxRecDepth 1000000 in
set_option maxHeartbeats 8000000 in
theorem pre_bcb (w : World) (line : ByteArray) (a : Int) (m : Nat) (d : Int) (hs : (line.size : Int) ≤ 100000) (hm : ¬ m ≤ 4) (hd : 1048576 < d) (ha : a < 0) (Q : Exit → Act → World → Prop) (hQ : PreQ w line a m d Q) (u4 u5 u6 u7 u8 u9 u10 u11 u12 u13 u14 u15 u16 u17 u18 u19 u20 u21 u22 u23 u24 u25 u26 u27 u28 u29 u30 u31 u32 u33 u34 u35 u36 u37 u38 u39 u40 u41 u42 u43 u44 u45 u46 u47 u48 u49 u50 u51 u52 u53 u54 u55 u56 u57 u58 u59 u60 u61 u62 u63 u64 u65 u66 u67 u68 u69 u70 u71 u72 u73 u74 u75 u76 u77 u78 u79 u80 u81 u82 u83 u84 u85 u86 u87 u88 u89 u90 u91 u92 u93 u94 u95 u96 u97 u98 u99 u100 u101 u102 u103 u104 u105 u106 u107 u108 u109 u110 u111 u112 u113 u114 u115 u116 u117 u118 u119 u120 u121 u122 u123 u124 u125 u126 u127 u128 u129 u130 u131 u132 u133 u134 u135 u136 u137 u138 u139 u140 u141 u142 u143 u144 u145 u146 u147 u148 u149 u150 u151 u152 u153 u154 u155 u156 u157 u158 u159 u160 u161 u162 u163 u164 u165 u166 u167 u168 u169 u170 u171 u172 u173 u174 u175 u176 u177 u178 u179 u180 u181 u182 u183 u184 u185 u186 u187 u188 u189 u190 u191 u192 u193 u194 u195 u196 u197 u198 u199 u200 u201 u202 u203 u204 u205 u206 u207 u208 u209 u210 u211 u212 u213 u214 u215 u216 u217 u218 u219 u220 u221 u222 u223 u224 u225 u226 u227 u228 u229 u230 u231 u232 u233 u234 u235 u236 u237 u238 u239 u240 u241 u242 u243 u244 u245 u246 u247 u248 u249 u250 u251 u252 u253 u254 u255 u256 u257 u258 u259 u260 u261 : Value) :
    Code.wp Tryz.prog scanAll Q ⟨((Value.string line)::(Value.int .i64 a)::(Value.int .u8 (m : Nat))::(Value.int .i64 d)::u4::u5::u6::u7::u8::u9::u10::u11::u12::u13::u14::u15::u16::u17::u18::u19::u20::u21::u22::u23::u24::u25::u26::u27::u28::u29::u30::u31::u32::u33::u34::u35::u36::u37::u38::u39::u40::u41::u42::u43::u44::u45::u46::u47::u48::u49::u50::u51::u52::u53::u54::u55::u56::u57::u58::u59::u60::u61::u62::u63::u64::u65::u66::u67::u68::u69::u70::u71::u72::u73::u74::u75::u76::u77::u78::u79::u80::u81::u82::u83::u84::u85::u86::u87::u88::u89::u90::u91::u92::u93::u94::u95::u96::u97::u98::u99::u100::u101::u102::u103::u104::u105::u106::u107::u108::u109::u110::u111::u112::u113::u114::u115::u116::u117::u118::u119::u120::u121::u122::u123::u124::u125::u126::u127::u128::u129::u130::u131::u132::u133::u134::u135::u136::u137::u138::u139::u140::u141::u142::u143::u144::u145::u146::u147::u148::u149::u150::u151::u152::u153::u154::u155::u156::u157::u158::u159::u160::u161::u162::u163::u164::u165::u166::u167::u168::u169::u170::u171::u172::u173::u174::u175::u176::u177::u178::u179::u180::u181::u182::u183::u184::u185::u186::u187::u188::u189::u190::u191::u192::u193::u194::u195::u196::u197::u198::u199::u200::u201::u202::u203::u204::u205::u206::u207::u208::u209::u210::u211::u212::u213::u214::u215::u216::u217::u218::u219::u220::u221::u222::u223::u224::u225::u226::u227::u228::u229::u230::u231::u232::u233::u234::u235::u236::u237::u238::u239::u240::u241::u242::u243::u244::u245::u246::u247::u248::u249::u250::u251::u252::u253::u254::u255::u256::u257::u258::u259::u260::u261::[]).toArray, []⟩ w := by
  conv => arg 2; whnf
  have HE := Lib.hid (fun W => end_any line W (by omega))
  have hE := endL_le (bl line)
  rw [bl_len] at hE
  have HC := Lib.hid (bl_cut line)
  obtain ⟨E, hEE⟩ : ∃ E, endL (bl line) = E := ⟨_, rfl⟩
  rw [hEE] at HE HC hE
  obtain ⟨t, ht⟩ : ∃ t, line.extract 0 E = t := ⟨_, rfl⟩
  rw [ht] at HC
  have hts : t.size = E := by rw [← ht, ByteArray.size_extract]; omega
  have HTS := Lib.hid (show (t.size : Int) ≤ 1000000 by omega)
  have hgoal : scanE (bl line) a m d = scanC (max a 0).toNat ((bl t).drop (max a 0).toNat) (st0 m d) := by
    unfold scanE
    rw [hEE, ← HC.out, scanL_eq]
  have HGL := Lib.hid hgoal
  have HS0 := Lib.hid (st0_ok m d)
  have k1 : (0 : Int) ≤ E := by omega
  have k2 : (E : Int) ≤ line.size := by omega
  have HQ := Lib.hid hQ
  have m4 : ¬ (m : Int) ≤ 4 := by omega
  have m4d : decide ((m : Int) ≤ 4) = false := decide_eq_false m4
  have m4' : (4 : Int) < m := by omega
  have d0 : ¬ d < 0 := by omega
  have d0d : decide (d < 0) = false := decide_eq_false d0
  have d1 : (1048576 : Int) < d := by omega
  have d1d : decide ((1048576 : Int) < d) = true := decide_eq_true d1
  have a0 : max a 0 = 0 := by omega
  have a0d : a < 0 := by omega
  have HI := Lib.hid (show (((max a 0).toNat : Nat) : Int) = 0 by omega)
  have HST := Lib.hid (show st0 m d = ⟨0, 1048576, false, false, false⟩ by unfold st0 markE depE; rw [if_neg hm, if_neg (by omega), if_pos hd])
  clear hm hd ha
  clear hgoal hEE hE hts hs hQ
  go_wp2_with (go_at_call 16; ((with_reducible refine (HE.out _).mono ?_); rintro e w1 ⟨rfl, rfl⟩))
  refine loop11 w t (w.heap.size + 1) w.heap.size (scanE (bl line) a m d) HTS.out _ ?hQ _ _ (max a 0).toNat (.slice none 0 0) [] (st0 m d) ?hF ?hO ?hR HS0.out (Nat.zero_le _)
  case hF => exact ⟨rfl, rfl, rfl, rfl, rfl, by rw [HI.out]; rfl⟩
  case hO => rw [HST.out]; exact out_start w _ _ _ _ _ _ ⟨0, 1048576, false, false, false⟩
  case hR => unfold Rest; rw [← HGL.out]; rfl
  intro x W' v' p' hF hO
  obtain ⟨f, rfl⟩ := fr_open hF
  have HGR := Lib.hid (rfl : scanE (bl line) a m d = scanE (bl line) a m d)
  generalize hRR : scanE (bl line) a m d = RR at hO
  obtain ⟨es', st'⟩ := RR
  dsimp only at hO
  obtain ⟨A', cc', rfl⟩ := own_slice hO.row
  have c0 := hO.cell (k := 0) (show _ = some (.slice A' es'.length cc') from rfl)
  have c1 := hO.cell (k := 1) (show _ = some (.int .u8 (st'.mark : Nat)) from rfl)
  have c2 := hO.cell (k := 2) (show _ = some (.int .i64 st'.depth) from rfl)
  have c3 := hO.cell (k := 3) (show _ = some (.bool st'.j) from rfl)
  have c4 := hO.cell (k := 4) (show _ = some (.bool st'.s) from rfl)
  have c5 := hO.cell (k := 5) (show _ = some (.bool st'.c) from rfl)
  obtain ⟨x0, x1, x2, x3, x4, x5, hr⟩ := hO.res
  have y0 : W'.cell? ⟨w.heap.size, 0, none⟩ = some x0 := cellOf hr rfl
  have y1 : W'.cell? ⟨w.heap.size, 1, none⟩ = some x1 := cellOf hr rfl
  have y2 : W'.cell? ⟨w.heap.size, 2, none⟩ = some x2 := cellOf hr rfl
  have y3 : W'.cell? ⟨w.heap.size, 3, none⟩ = some x3 := cellOf hr rfl
  have y4 : W'.cell? ⟨w.heap.size, 4, none⟩ = some x4 := cellOf hr rfl
  have y5 : W'.cell? ⟨w.heap.size, 5, none⟩ = some x5 := cellOf hr rfl
  have z0 : W'.frozen? ⟨w.heap.size, 0, none⟩ = false := frozenOf hr
  have z1 : W'.frozen? ⟨w.heap.size, 1, none⟩ = false := frozenOf hr
  have z2 : W'.frozen? ⟨w.heap.size, 2, none⟩ = false := frozenOf hr
  have z3 : W'.frozen? ⟨w.heap.size, 3, none⟩ = false := frozenOf hr
  have z4 : W'.frozen? ⟨w.heap.size, 4, none⟩ = false := frozenOf hr
  have z5 : W'.frozen? ⟨w.heap.size, 5, none⟩ = false := frozenOf hr
  have HO := Lib.hid hO
  have HR := Lib.hid hr
  have HRR := Lib.hid hRR
  clear hO hF hr hRR HGR
  go_wp2
  have hq := HQ.out
  unfold PreQ at hq
  rw [HRR.out] at hq
  have hg : ∀ q, (Value.slice A' es'.length cc').ownBlock = some q → q ≠ w.heap.size := fun q e => (HO.out.apart e).2
  exact hq _ _ _ rfl rfl (set6 HR.out) (row_apart (row_apart (row_apart (row_apart (row_apart (row_apart HO.out.row hg) hg) hg) hg) hg) hg) (up_set (up_set (up_set (up_set (up_set (up_set HO.out.up))))))
end Go.Proofs.YtmfcapbllbfjnaaGreatDoor
