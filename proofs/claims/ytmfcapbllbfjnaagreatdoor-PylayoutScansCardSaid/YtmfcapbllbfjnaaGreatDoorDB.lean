/- The document's column that is open. The document's Scan: what is told, piece by piece. The document's Scan: behind the events of a line, whole. The document's Scan: pieces of the layout. -/
import Derived.Test.YtmfcapbllbfjnaaGreatDoorDA
import Derived.Test.YtmfcapbllbfjnaaGreatDoorYRefS
import Derived.Test.YtmfcapbllbfjnaaGreatDoorVA
namespace Go.Proofs.YtmfcapbllbfjnaaGreatDoor
open Go.RowKit
attribute [local go_sem ↓] ldS_eq stS_eq elS_eq neS_eq zrS_eq bdS_eq
attribute [local go_sem] ldS_run stS_run elS_run neS_run zrS_run bdS_run0 bdS_run1 g0_rule ldV_drew ldV_drewN

set_option maxRecDepth 100000 in
set_option maxHeartbeats 4000000 in
theorem refOpen_any (W : World) (s : LSt) (hl : s.cols.length ≤ 16) : Calls Tryz.prog 18 #[.agg (stA s)] W fun e w' => e = .returned (.int .i64 (opnC s.cols : Nat)) ∧ Up W w' := by
  have HU := Lib.hid (Up.alloc W (.cells (stA s) TS))
  have hd : (W.alloc (.cells (stA s) TS)).cell? ⟨W.heap.size, 64, none⟩ = some (.int .i64 (s.cols.length : Nat)) := sv_tl (svP s) W 0 rfl
  cases hn : s.cols.length with
  | zero =>
    have e : opnC s.cols = 0 := by rw [List.eq_nil_of_length_eq_zero hn]; rfl
    rw [e]
    rw [hn, show ((0 : Nat) : Int) = 0 from rfl] at hd
    generalize stA s = y at *
    clear hn hl e
    go_enter Tryz.func18, Tryz.ntmps18
    go_wp2
    go_ret
    exact ⟨rfl, HU.out⟩
  | succ k =>
    have hk : k < s.cols.length := by omega
    have hf : (W.alloc (.cells (stA s) TS)).cell? ⟨W.heap.size, k * 4 + 3, none⟩ = some (.int .i64 ((opnC s.cols : Nat) : Int)) := by
      have h1 := sv_fr (svP s) W (j := k * 4 + 3) (by omega)
      unfold frV at h1
      rw [if_pos (by omega), show (k * 4 + 3) / 4 = k from by omega] at h1
      refine h1.trans ?_
      have e : opnC s.cols = s.cols.getD k 0 := by
        unfold opnC
        rw [List.getLast?_eq_getElem?, hn, List.getD_eq_getElem?_getD]
        rfl
      rw [e]
      rfl
    rw [hn] at hd
    generalize opnC s.cols = c at hf ⊢
    generalize stA s = y at *
    have p0 : (0 : Int) ≤ k := by omega
    have p1 : (k : Int) < 16 := by omega
    have e1 : IntKind.i64.wrap (((k + 1 : Nat) : Int) - 1) = (k : Nat) := (IntWalk.i64_in _ (by omega)).trans (by omega)
    have e2 : wrap64 (k : Int) = (k : Nat) := IntWalk.wrap64_in _ (by omega)
    have z : (0 : Int) < ((k + 1 : Nat) : Int) := by omega
    clear hn hl hk
    go_enter Tryz.func18, Tryz.ntmps18
    go_wp2
    go_ret
    exact ⟨rfl, HU.out⟩
end Go.Proofs.YtmfcapbllbfjnaaGreatDoor

namespace Go.Proofs.YtmfcapbllbfjnaaGreatDoor
open Go.RowKit
variable {u0 u1 u2 u3 u4 u5 u6 u7 u8 u9 u10 u11 u12 u13 u14 u15 u16 u17 u18 u19 u20 u21 u22 u23 u24 u25 u26 u27 u28 u29 u30 u31 u32 u33 u34 u35 u36 u37 u38 u39 u40 u41 u42 u43 u44 u45 u46 u47 u48 u49 u50 u51 u52 u53 u54 u55 u56 u57 u58 u59 u60 u61 u62 u63 u64 u65 u66 u67 u68 u69 u70 u71 u72 u73 u74 u75 u76 u77 u78 u79 u80 u81 u82 u83 u84 u85 u86 u87 u88 u89 u90 u91 u92 u93 u94 u95 u96 u97 u98 u99 u100 u101 u102 u103 u104 u105 u106 u107 u108 u109 u110 u111 u112 u113 u114 u115 u116 u117 u118 u119 u120 u121 u122 u123 u124 u125 u126 u127 u128 u129 u130 u131 u132 u133 u134 u135 u136 u137 u138 u139 u140 u141 u142 u143 u144 u145 u146 u147 u148 u149 u150 u151 u152 u153 u154 u155 u156 u157 u158 u159 u160 u161 u162 u163 : Value}
attribute [local go_sem ↓] ldS_eq stS_eq elS_eq neS_eq zrS_eq bdS_eq
attribute [local go_sem] ldS_run stS_run elS_run neS_run zrS_run bdS_run0 bdS_run1 g0_rule ldV_drew ldV_drewN

theorem rowE_up {w w' : World} {B : Nat} {v : Value} {es : List PEv} (h : RowE w B v es) (hu : Up w w') : RowE w' B v es := own_up h hu
set_option maxRecDepth 1000000 in
set_option maxHeartbeats 16000000 in
theorem piece12_17 (w0 W : World) (B r bs : Nat) (V : SV) (v : Value) (es : List LEv) (hl : es.length ≤ 1000000) (HD : DcP w0 W B r bs V v es) (K : Act → World → Prop) (Q0 : Exit → Act → World → Prop)
    (hK : ∀ (v' : Value) (d59 d60 d61 d62 : Value) (wx : World), DcP w0 wx B r bs V v' (es ++ [⟨1, 10, 0, 0⟩]) → K ⟨(u0::u1::u2::u3::u4::u5::u6::v'::u8::u9::u10::u11::u12::u13::u14::u15::u16::u17::u18::u19::u20::u21::u22::u23::u24::u25::u26::u27::u28::u29::u30::u31::u32::u33::u34::u35::u36::u37::u38::u39::u40::u41::u42::u43::u44::u45::u46::u47::u48::u49::u50::u51::u52::u53::u54::u55::u56::u57::u58::d59::d60::d61::d62::u63::u64::u65::u66::u67::u68::u69::u70::u71::u72::u73::u74::u75::u76::u77::u78::u79::u80::u81::u82::u83::u84::u85::u86::u87::u88::u89::u90::u91::u92::u93::u94::u95::u96::u97::u98::u99::u100::u101::u102::u103::u104::u105::u106::u107::u108::u109::u110::u111::u112::u113::u114::u115::u116::u117::u118::u119::u120::u121::u122::u123::u124::u125::u126::u127::u128::u129::u130::u131::u132::u133::u134::u135::u136::u137::u138::u139::u140::u141::u142::u143::u144::u145::u146::u147::u148::u149::u150::u151::u152::u153::u154::u155::u156::u157::u158::u159::u160::u161::u162::u163::[]).toArray, []⟩ wx) :
    Code.wp Tryz.prog ((Tryz.f5.body.bind (dReg 17)).getD .skip) (Exit.then K Q0) ⟨(u0::u1::u2::u3::u4::u5::u6::v::u8::u9::u10::u11::u12::u13::u14::u15::u16::u17::u18::u19::u20::u21::u22::u23::u24::u25::u26::u27::u28::u29::u30::u31::u32::u33::u34::u35::u36::u37::u38::u39::u40::u41::u42::u43::u44::u45::u46::u47::u48::u49::u50::u51::u52::u53::u54::u55::u56::u57::u58::u59::u60::u61::u62::u63::u64::u65::u66::u67::u68::u69::u70::u71::u72::u73::u74::u75::u76::u77::u78::u79::u80::u81::u82::u83::u84::u85::u86::u87::u88::u89::u90::u91::u92::u93::u94::u95::u96::u97::u98::u99::u100::u101::u102::u103::u104::u105::u106::u107::u108::u109::u110::u111::u112::u113::u114::u115::u116::u117::u118::u119::u120::u121::u122::u123::u124::u125::u126::u127::u128::u129::u130::u131::u132::u133::u134::u135::u136::u137::u138::u139::u140::u141::u142::u143::u144::u145::u146::u147::u148::u149::u150::u151::u152::u153::u154::u155::u156::u157::u158::u159::u160::u161::u162::u163::[]).toArray, []⟩ W := by
  conv => arg 2; whnf
  refine wp_only2 ?_
  have HK := Lib.hid hK
  clear hK
  obtain ⟨A, c0, hv⟩ := own_slice HD.row
  obtain ⟨n, hn⟩ : ∃ n, es.length = n := ⟨_, rfl⟩
  rw [hn] at hv
  subst hv
  obtain ⟨i0, hi0, hz0, hz1, hz2⟩ := info_parts infoEvent
  have HOWN : W.ownsRow B ET 4 (.slice A n c0) n (levCells es) := by have h := HD.row; unfold RowL at h; rwa [hn] at h
  have HAP := Lib.hid (fun (w5 : World) (v5 : Value) (o : Obj) (hg : (W.alloc o).grownBy w5 (Value.slice A n c0).ownBlock) (ho : w5.ownsRow B ET 4 v5 (es.length + 1) (levCells es ++ [.int .u8 ((1 : Nat) : Int), .int .u8 ((10 : Nat) : Int), .int .i64 ((0 : Nat) : Int), .int .i64 ((0 : Nat) : Int)])) => HD.app (k := 10) (a := 0) (c := 0) (o := 1) (Up.alloc W o) hg ho)
  have hb0 := HD.top
  have b1 : n + 1 ≤ maxLen := by unfold maxLen; omega
  have b2 : (n + 1) * 24 ≤ 140737488355328 := by omega
  have HN := Lib.hid hn
  have hnews : ∀ u ∈ ([Value.int .u8 1, .int .u8 10, .int .i64 0, .int .i64 0] : List Value), u.oneCell' = true := by intro u hu; simp at hu; rcases hu with rfl | rfl | rfl | rfl <;> rfl
  clear HD hl hn
  go_wp2_with (at_builtin; (refine wpList_append_lies _ rfl _ _ _ rfl B ET i0 (.agg #[.int .u8 0, .int .u8 0, .int .i64 0, .int .i64 0]) 4 24 Tryz.underlying30 hi0 hz0 hz1 hz2 rfl (by decide) _ n (levCells es) rfl (HOWN.alloc _) ⟨W.heap.size, 0, none⟩ 1 1 [Value.int .u8 1, .int .u8 10, .int .i64 0, .int .i64 0] rfl rfl (World.news_of_block (cs := #[Value.int .u8 1, .int .u8 10, .int .i64 0, .int .i64 0]) (t := ET) (fr := (0, 0)) (heap_alloc_new W _)) hnews (by omega) b1 b2 (by rw [World.size_alloc]; omega) (W.heap.size + 1) (by simp) ?_; intro g5 cap5 w5 hown5 hgrow hat5 hlt5; have HF := Lib.hid (HAP.out _ _ _ hgrow (by rw [HN.out]; exact hown5)); clear hown5 hgrow hat5 hlt5))
  exact HK.out _ _ _ _ _ _ HF.out
set_option maxRecDepth 1000000 in
set_option maxHeartbeats 16000000 in
theorem piece12_21 (w0 W : World) (B r bs : Nat) (V : SV) (v : Value) (es : List LEv) (hl : es.length ≤ 1000000) (HD : DcP w0 W B r bs V v es) (K : Act → World → Prop) (Q0 : Exit → Act → World → Prop)
    (hK : ∀ (v' : Value) (d77 d78 d79 d80 : Value) (wx : World), DcP w0 wx B r bs V v' (es ++ [⟨2, 0, 0, 0⟩]) → K ⟨(u0::u1::u2::u3::u4::u5::u6::v'::u8::u9::u10::u11::u12::u13::u14::u15::u16::u17::u18::u19::u20::u21::u22::u23::u24::u25::u26::u27::u28::u29::u30::u31::u32::u33::u34::u35::u36::u37::u38::u39::u40::u41::u42::u43::u44::u45::u46::u47::u48::u49::u50::u51::u52::u53::u54::u55::u56::u57::u58::u59::u60::u61::u62::u63::u64::u65::u66::u67::u68::u69::u70::u71::u72::u73::u74::u75::u76::d77::d78::d79::d80::u81::u82::u83::u84::u85::u86::u87::u88::u89::u90::u91::u92::u93::u94::u95::u96::u97::u98::u99::u100::u101::u102::u103::u104::u105::u106::u107::u108::u109::u110::u111::u112::u113::u114::u115::u116::u117::u118::u119::u120::u121::u122::u123::u124::u125::u126::u127::u128::u129::u130::u131::u132::u133::u134::u135::u136::u137::u138::u139::u140::u141::u142::u143::u144::u145::u146::u147::u148::u149::u150::u151::u152::u153::u154::u155::u156::u157::u158::u159::u160::u161::u162::u163::[]).toArray, []⟩ wx) :
    Code.wp Tryz.prog ((Tryz.f5.body.bind (dReg 21)).getD .skip) (Exit.then K Q0) ⟨(u0::u1::u2::u3::u4::u5::u6::v::u8::u9::u10::u11::u12::u13::u14::u15::u16::u17::u18::u19::u20::u21::u22::u23::u24::u25::u26::u27::u28::u29::u30::u31::u32::u33::u34::u35::u36::u37::u38::u39::u40::u41::u42::u43::u44::u45::u46::u47::u48::u49::u50::u51::u52::u53::u54::u55::u56::u57::u58::u59::u60::u61::u62::u63::u64::u65::u66::u67::u68::u69::u70::u71::u72::u73::u74::u75::u76::u77::u78::u79::u80::u81::u82::u83::u84::u85::u86::u87::u88::u89::u90::u91::u92::u93::u94::u95::u96::u97::u98::u99::u100::u101::u102::u103::u104::u105::u106::u107::u108::u109::u110::u111::u112::u113::u114::u115::u116::u117::u118::u119::u120::u121::u122::u123::u124::u125::u126::u127::u128::u129::u130::u131::u132::u133::u134::u135::u136::u137::u138::u139::u140::u141::u142::u143::u144::u145::u146::u147::u148::u149::u150::u151::u152::u153::u154::u155::u156::u157::u158::u159::u160::u161::u162::u163::[]).toArray, []⟩ W := by
  conv => arg 2; whnf
  refine wp_only2 ?_
  have HK := Lib.hid hK
  clear hK
  obtain ⟨A, c0, hv⟩ := own_slice HD.row
  obtain ⟨n, hn⟩ : ∃ n, es.length = n := ⟨_, rfl⟩
  rw [hn] at hv
  subst hv
  obtain ⟨i0, hi0, hz0, hz1, hz2⟩ := info_parts infoEvent
  have HOWN : W.ownsRow B ET 4 (.slice A n c0) n (levCells es) := by have h := HD.row; unfold RowL at h; rwa [hn] at h
  have HAP := Lib.hid (fun (w5 : World) (v5 : Value) (o : Obj) (hg : (W.alloc o).grownBy w5 (Value.slice A n c0).ownBlock) (ho : w5.ownsRow B ET 4 v5 (es.length + 1) (levCells es ++ [.int .u8 ((2 : Nat) : Int), .int .u8 ((0 : Nat) : Int), .int .i64 ((0 : Nat) : Int), .int .i64 ((0 : Nat) : Int)])) => HD.app (k := 0) (a := 0) (c := 0) (o := 2) (Up.alloc W o) hg ho)
  have hb0 := HD.top
  have b1 : n + 1 ≤ maxLen := by unfold maxLen; omega
  have b2 : (n + 1) * 24 ≤ 140737488355328 := by omega
  have HN := Lib.hid hn
  have hnews : ∀ u ∈ ([Value.int .u8 2, .int .u8 0, .int .i64 0, .int .i64 0] : List Value), u.oneCell' = true := by intro u hu; simp at hu; rcases hu with rfl | rfl | rfl | rfl <;> rfl
  clear HD hl hn
  go_wp2_with (at_builtin; (refine wpList_append_lies _ rfl _ _ _ rfl B ET i0 (.agg #[.int .u8 0, .int .u8 0, .int .i64 0, .int .i64 0]) 4 24 Tryz.underlying30 hi0 hz0 hz1 hz2 rfl (by decide) _ n (levCells es) rfl (HOWN.alloc _) ⟨W.heap.size, 0, none⟩ 1 1 [Value.int .u8 2, .int .u8 0, .int .i64 0, .int .i64 0] rfl rfl (World.news_of_block (cs := #[Value.int .u8 2, .int .u8 0, .int .i64 0, .int .i64 0]) (t := ET) (fr := (0, 0)) (heap_alloc_new W _)) hnews (by omega) b1 b2 (by rw [World.size_alloc]; omega) (W.heap.size + 1) (by simp) ?_; intro g5 cap5 w5 hown5 hgrow hat5 hlt5; have HF := Lib.hid (HAP.out _ _ _ hgrow (by rw [HN.out]; exact hown5)); clear hown5 hgrow hat5 hlt5))
  exact HK.out _ _ _ _ _ _ HF.out
set_option maxRecDepth 1000000 in
set_option maxHeartbeats 16000000 in
theorem piece12_26 (w0 W : World) (B r bs : Nat) (V : SV) (v : Value) (es : List LEv) (ti : Nat) (hl : es.length ≤ 1000000) (HD : DcP w0 W B r bs V v es) (K : Act → World → Prop) (Q0 : Exit → Act → World → Prop)
    (hK : ∀ (v' : Value) (d98 d99 d100 d101 d102 : Value) (wx : World), DcP w0 wx B r bs V v' (es ++ [⟨3, 2, 0, ti⟩]) → K ⟨(u0::u1::u2::u3::u4::u5::u6::v'::u8::u9::(Value.int .i64 (ti : Nat))::u11::u12::u13::u14::u15::u16::u17::u18::u19::u20::u21::u22::u23::u24::u25::u26::u27::u28::u29::u30::u31::u32::u33::u34::u35::u36::u37::u38::u39::u40::u41::u42::u43::u44::u45::u46::u47::u48::u49::u50::u51::u52::u53::u54::u55::u56::u57::u58::u59::u60::u61::u62::u63::u64::u65::u66::u67::u68::u69::u70::u71::u72::u73::u74::u75::u76::u77::u78::u79::u80::u81::u82::u83::u84::u85::u86::u87::u88::u89::u90::u91::u92::u93::u94::u95::u96::u97::d98::d99::d100::d101::d102::u103::u104::u105::u106::u107::u108::u109::u110::u111::u112::u113::u114::u115::u116::u117::u118::u119::u120::u121::u122::u123::u124::u125::u126::u127::u128::u129::u130::u131::u132::u133::u134::u135::u136::u137::u138::u139::u140::u141::u142::u143::u144::u145::u146::u147::u148::u149::u150::u151::u152::u153::u154::u155::u156::u157::u158::u159::u160::u161::u162::u163::[]).toArray, []⟩ wx) :
    Code.wp Tryz.prog ((Tryz.f5.body.bind (dReg 26)).getD .skip) (Exit.then K Q0) ⟨(u0::u1::u2::u3::u4::u5::u6::v::u8::u9::(Value.int .i64 (ti : Nat))::u11::u12::u13::u14::u15::u16::u17::u18::u19::u20::u21::u22::u23::u24::u25::u26::u27::u28::u29::u30::u31::u32::u33::u34::u35::u36::u37::u38::u39::u40::u41::u42::u43::u44::u45::u46::u47::u48::u49::u50::u51::u52::u53::u54::u55::u56::u57::u58::u59::u60::u61::u62::u63::u64::u65::u66::u67::u68::u69::u70::u71::u72::u73::u74::u75::u76::u77::u78::u79::u80::u81::u82::u83::u84::u85::u86::u87::u88::u89::u90::u91::u92::u93::u94::u95::u96::u97::u98::u99::u100::u101::u102::u103::u104::u105::u106::u107::u108::u109::u110::u111::u112::u113::u114::u115::u116::u117::u118::u119::u120::u121::u122::u123::u124::u125::u126::u127::u128::u129::u130::u131::u132::u133::u134::u135::u136::u137::u138::u139::u140::u141::u142::u143::u144::u145::u146::u147::u148::u149::u150::u151::u152::u153::u154::u155::u156::u157::u158::u159::u160::u161::u162::u163::[]).toArray, []⟩ W := by
  conv => arg 2; whnf
  refine wp_only2 ?_
  have HK := Lib.hid hK
  clear hK
  obtain ⟨A, c0, hv⟩ := own_slice HD.row
  obtain ⟨n, hn⟩ : ∃ n, es.length = n := ⟨_, rfl⟩
  rw [hn] at hv
  subst hv
  obtain ⟨i0, hi0, hz0, hz1, hz2⟩ := info_parts infoEvent
  have HOWN : W.ownsRow B ET 4 (.slice A n c0) n (levCells es) := by have h := HD.row; unfold RowL at h; rwa [hn] at h
  have HAP := Lib.hid (fun (w5 : World) (v5 : Value) (o : Obj) (hg : (W.alloc o).grownBy w5 (Value.slice A n c0).ownBlock) (ho : w5.ownsRow B ET 4 v5 (es.length + 1) (levCells es ++ [.int .u8 ((3 : Nat) : Int), .int .u8 ((2 : Nat) : Int), .int .i64 ((0 : Nat) : Int), .int .i64 ((ti : Nat) : Int)])) => HD.app (k := 2) (a := 0) (c := ti) (o := 3) (Up.alloc W o) hg ho)
  have hb0 := HD.top
  have b1 : n + 1 ≤ maxLen := by unfold maxLen; omega
  have b2 : (n + 1) * 24 ≤ 140737488355328 := by omega
  have HN := Lib.hid hn
  have hnews : ∀ u ∈ ([Value.int .u8 3, .int .u8 2, .int .i64 0, .int .i64 (ti : Nat)] : List Value), u.oneCell' = true := by intro u hu; simp at hu; rcases hu with rfl | rfl | rfl | rfl <;> rfl
  clear HD hl hn
  go_wp2_with (at_builtin; (refine wpList_append_lies _ rfl _ _ _ rfl B ET i0 (.agg #[.int .u8 0, .int .u8 0, .int .i64 0, .int .i64 0]) 4 24 Tryz.underlying30 hi0 hz0 hz1 hz2 rfl (by decide) _ n (levCells es) rfl (HOWN.alloc _) ⟨W.heap.size, 0, none⟩ 1 1 [Value.int .u8 3, .int .u8 2, .int .i64 0, .int .i64 (ti : Nat)] rfl rfl (World.news_of_block (cs := #[Value.int .u8 3, .int .u8 2, .int .i64 0, .int .i64 (ti : Nat)]) (t := ET) (fr := (0, 0)) (heap_alloc_new W _)) hnews (by omega) b1 b2 (by rw [World.size_alloc]; omega) (W.heap.size + 1) (by simp) ?_; intro g5 cap5 w5 hown5 hgrow hat5 hlt5; have HF := Lib.hid (HAP.out _ _ _ hgrow (by rw [HN.out]; exact hown5)); clear hown5 hgrow hat5 hlt5))
  exact HK.out _ _ _ _ _ _ _ HF.out
set_option maxRecDepth 1000000 in
set_option maxHeartbeats 16000000 in
theorem piece12_27 (w0 W : World) (B r bs : Nat) (V : SV) (v : Value) (es : List LEv) (ti : Nat) (hl : es.length ≤ 1000000) (HD : DcP w0 W B r bs V v es) (K : Act → World → Prop) (Q0 : Exit → Act → World → Prop)
    (hK : ∀ (v' : Value) (d103 d104 d105 d106 d107 : Value) (wx : World), DcP w0 wx B r bs V v' (es ++ [⟨1, 11, ti, 0⟩]) → K ⟨(u0::u1::u2::u3::u4::u5::u6::v'::u8::u9::(Value.int .i64 (ti : Nat))::u11::u12::u13::u14::u15::u16::u17::u18::u19::u20::u21::u22::u23::u24::u25::u26::u27::u28::u29::u30::u31::u32::u33::u34::u35::u36::u37::u38::u39::u40::u41::u42::u43::u44::u45::u46::u47::u48::u49::u50::u51::u52::u53::u54::u55::u56::u57::u58::u59::u60::u61::u62::u63::u64::u65::u66::u67::u68::u69::u70::u71::u72::u73::u74::u75::u76::u77::u78::u79::u80::u81::u82::u83::u84::u85::u86::u87::u88::u89::u90::u91::u92::u93::u94::u95::u96::u97::u98::u99::u100::u101::u102::d103::d104::d105::d106::d107::u108::u109::u110::u111::u112::u113::u114::u115::u116::u117::u118::u119::u120::u121::u122::u123::u124::u125::u126::u127::u128::u129::u130::u131::u132::u133::u134::u135::u136::u137::u138::u139::u140::u141::u142::u143::u144::u145::u146::u147::u148::u149::u150::u151::u152::u153::u154::u155::u156::u157::u158::u159::u160::u161::u162::u163::[]).toArray, []⟩ wx) :
    Code.wp Tryz.prog ((Tryz.f5.body.bind (dReg 27)).getD .skip) (Exit.then K Q0) ⟨(u0::u1::u2::u3::u4::u5::u6::v::u8::u9::(Value.int .i64 (ti : Nat))::u11::u12::u13::u14::u15::u16::u17::u18::u19::u20::u21::u22::u23::u24::u25::u26::u27::u28::u29::u30::u31::u32::u33::u34::u35::u36::u37::u38::u39::u40::u41::u42::u43::u44::u45::u46::u47::u48::u49::u50::u51::u52::u53::u54::u55::u56::u57::u58::u59::u60::u61::u62::u63::u64::u65::u66::u67::u68::u69::u70::u71::u72::u73::u74::u75::u76::u77::u78::u79::u80::u81::u82::u83::u84::u85::u86::u87::u88::u89::u90::u91::u92::u93::u94::u95::u96::u97::u98::u99::u100::u101::u102::u103::u104::u105::u106::u107::u108::u109::u110::u111::u112::u113::u114::u115::u116::u117::u118::u119::u120::u121::u122::u123::u124::u125::u126::u127::u128::u129::u130::u131::u132::u133::u134::u135::u136::u137::u138::u139::u140::u141::u142::u143::u144::u145::u146::u147::u148::u149::u150::u151::u152::u153::u154::u155::u156::u157::u158::u159::u160::u161::u162::u163::[]).toArray, []⟩ W := by
  conv => arg 2; whnf
  refine wp_only2 ?_
  have HK := Lib.hid hK
  clear hK
  obtain ⟨A, c0, hv⟩ := own_slice HD.row
  obtain ⟨n, hn⟩ : ∃ n, es.length = n := ⟨_, rfl⟩
  rw [hn] at hv
  subst hv
  obtain ⟨i0, hi0, hz0, hz1, hz2⟩ := info_parts infoEvent
  have HOWN : W.ownsRow B ET 4 (.slice A n c0) n (levCells es) := by have h := HD.row; unfold RowL at h; rwa [hn] at h
  have HAP := Lib.hid (fun (w5 : World) (v5 : Value) (o : Obj) (hg : (W.alloc o).grownBy w5 (Value.slice A n c0).ownBlock) (ho : w5.ownsRow B ET 4 v5 (es.length + 1) (levCells es ++ [.int .u8 ((1 : Nat) : Int), .int .u8 ((11 : Nat) : Int), .int .i64 ((ti : Nat) : Int), .int .i64 ((0 : Nat) : Int)])) => HD.app (k := 11) (a := ti) (c := 0) (o := 1) (Up.alloc W o) hg ho)
  have hb0 := HD.top
  have b1 : n + 1 ≤ maxLen := by unfold maxLen; omega
  have b2 : (n + 1) * 24 ≤ 140737488355328 := by omega
  have HN := Lib.hid hn
  have hnews : ∀ u ∈ ([Value.int .u8 1, .int .u8 11, .int .i64 (ti : Nat), .int .i64 0] : List Value), u.oneCell' = true := by intro u hu; simp at hu; rcases hu with rfl | rfl | rfl | rfl <;> rfl
  clear HD hl hn
  go_wp2_with (at_builtin; (refine wpList_append_lies _ rfl _ _ _ rfl B ET i0 (.agg #[.int .u8 0, .int .u8 0, .int .i64 0, .int .i64 0]) 4 24 Tryz.underlying30 hi0 hz0 hz1 hz2 rfl (by decide) _ n (levCells es) rfl (HOWN.alloc _) ⟨W.heap.size, 0, none⟩ 1 1 [Value.int .u8 1, .int .u8 11, .int .i64 (ti : Nat), .int .i64 0] rfl rfl (World.news_of_block (cs := #[Value.int .u8 1, .int .u8 11, .int .i64 (ti : Nat), .int .i64 0]) (t := ET) (fr := (0, 0)) (heap_alloc_new W _)) hnews (by omega) b1 b2 (by rw [World.size_alloc]; omega) (W.heap.size + 1) (by simp) ?_; intro g5 cap5 w5 hown5 hgrow hat5 hlt5; have HF := Lib.hid (HAP.out _ _ _ hgrow (by rw [HN.out]; exact hown5)); clear hown5 hgrow hat5 hlt5))
  exact HK.out _ _ _ _ _ _ _ HF.out
set_option maxRecDepth 1000000 in
set_option maxHeartbeats 16000000 in
theorem piece12_18 (w0 W : World) (B r bs n col : Nat) (V : SV) (v : Value) (es : List LEv) (hn : n < 16) (hd : V.d = (n : Nat)) (HD : DcP w0 W B r bs V v es) (K : Act → World → Prop) (Q0 : Exit → Act → World → Prop)
    (hK : ∀ (d63 d64 d65 d66 d67 d68 : Value) (wx : World), DcP w0 wx B r bs (setFr V n 10 (col : Int)) v es → K ⟨(u0::u1::u2::u3::u4::u5::(Value.pointer (some ⟨bs, 0, none⟩))::u7::u8::u9::u10::(Value.int .i64 (col : Nat))::u12::u13::u14::u15::u16::u17::u18::u19::u20::u21::u22::u23::u24::u25::u26::u27::u28::u29::u30::u31::u32::u33::u34::u35::u36::u37::u38::u39::u40::u41::u42::u43::u44::u45::u46::u47::u48::u49::u50::u51::u52::u53::u54::u55::u56::u57::u58::u59::u60::u61::u62::d63::d64::d65::d66::d67::d68::u69::u70::u71::u72::u73::u74::u75::u76::u77::u78::u79::u80::u81::u82::u83::u84::u85::u86::u87::u88::u89::u90::u91::u92::u93::u94::u95::u96::u97::u98::u99::u100::u101::u102::u103::u104::u105::u106::u107::u108::u109::u110::u111::u112::u113::u114::u115::u116::u117::u118::u119::u120::u121::u122::u123::u124::u125::u126::u127::u128::u129::u130::u131::u132::u133::u134::u135::u136::u137::u138::u139::u140::u141::u142::u143::u144::u145::u146::u147::u148::u149::u150::u151::u152::u153::u154::u155::u156::u157::u158::u159::u160::u161::u162::u163::[]).toArray, []⟩ wx) :
    Code.wp Tryz.prog ((Tryz.f5.body.bind (dReg 18)).getD .skip) (Exit.then K Q0) ⟨(u0::u1::u2::u3::u4::u5::(Value.pointer (some ⟨bs, 0, none⟩))::u7::u8::u9::u10::(Value.int .i64 (col : Nat))::u12::u13::u14::u15::u16::u17::u18::u19::u20::u21::u22::u23::u24::u25::u26::u27::u28::u29::u30::u31::u32::u33::u34::u35::u36::u37::u38::u39::u40::u41::u42::u43::u44::u45::u46::u47::u48::u49::u50::u51::u52::u53::u54::u55::u56::u57::u58::u59::u60::u61::u62::u63::u64::u65::u66::u67::u68::u69::u70::u71::u72::u73::u74::u75::u76::u77::u78::u79::u80::u81::u82::u83::u84::u85::u86::u87::u88::u89::u90::u91::u92::u93::u94::u95::u96::u97::u98::u99::u100::u101::u102::u103::u104::u105::u106::u107::u108::u109::u110::u111::u112::u113::u114::u115::u116::u117::u118::u119::u120::u121::u122::u123::u124::u125::u126::u127::u128::u129::u130::u131::u132::u133::u134::u135::u136::u137::u138::u139::u140::u141::u142::u143::u144::u145::u146::u147::u148::u149::u150::u151::u152::u153::u154::u155::u156::u157::u158::u159::u160::u161::u162::u163::[]).toArray, []⟩ W := by
  conv => arg 2; whnf
  refine wp_only2 ?_
  have HK := Lib.hid hK
  clear hK
  have p0 : (0 : Int) ≤ n := by omega
  have p1 : (n : Int) < 16 := by omega
  have hdp : W.cell? ⟨bs, 64, none⟩ = some (.int .i64 (n : Nat)) := by have := HD.depth; rw [hd] at this; exact this
  have f0 := HD.fr (n * 4)
  have f1 := HD.fr (n * 4 + 1)
  have f2 := HD.fr (n * 4 + 2)
  have f3 := HD.fr (n * 4 + 3)
  have c0 := HD.cell (svL_fr V (j := n * 4) (by omega))
  have c1 := HD.cell (svL_fr V (j := n * 4 + 1) (by omega))
  have c2 := HD.cell (svL_fr V (j := n * 4 + 2) (by omega))
  have c3 := HD.cell (svL_fr V (j := n * 4 + 3) (by omega))
  have HF := Lib.hid (HD.frame hn 10 (col : Int))
  rw [show ((10 : Nat) : Int) = 10 from rfl] at HF
  clear HD hd hn
  go_wp2
  exact HK.out _ _ _ _ _ _ _ HF.out
set_option maxRecDepth 1000000 in
set_option maxHeartbeats 16000000 in
theorem piece12_19 (w0 W : World) (B r bs n : Nat) (V : SV) (v : Value) (es : List LEv) (hn : n < 16) (hd : V.d = (n : Nat)) (HD : DcP w0 W B r bs V v es) (K : Act → World → Prop) (Q0 : Exit → Act → World → Prop)
    (hK : ∀ (d69 d70 d71 d72 : Value) (wx : World), DcP w0 wx B r bs { V with d := ((n + 1 : Nat) : Int) } v es → K ⟨(u0::u1::u2::u3::u4::u5::(Value.pointer (some ⟨bs, 0, none⟩))::u7::u8::u9::u10::u11::u12::u13::u14::u15::u16::u17::u18::u19::u20::u21::u22::u23::u24::u25::u26::u27::u28::u29::u30::u31::u32::u33::u34::u35::u36::u37::u38::u39::u40::u41::u42::u43::u44::u45::u46::u47::u48::u49::u50::u51::u52::u53::u54::u55::u56::u57::u58::u59::u60::u61::u62::u63::u64::u65::u66::u67::u68::d69::d70::d71::d72::u73::u74::u75::u76::u77::u78::u79::u80::u81::u82::u83::u84::u85::u86::u87::u88::u89::u90::u91::u92::u93::u94::u95::u96::u97::u98::u99::u100::u101::u102::u103::u104::u105::u106::u107::u108::u109::u110::u111::u112::u113::u114::u115::u116::u117::u118::u119::u120::u121::u122::u123::u124::u125::u126::u127::u128::u129::u130::u131::u132::u133::u134::u135::u136::u137::u138::u139::u140::u141::u142::u143::u144::u145::u146::u147::u148::u149::u150::u151::u152::u153::u154::u155::u156::u157::u158::u159::u160::u161::u162::u163::[]).toArray, []⟩ wx) :
    Code.wp Tryz.prog ((Tryz.f5.body.bind (dReg 19)).getD .skip) (Exit.then K Q0) ⟨(u0::u1::u2::u3::u4::u5::(Value.pointer (some ⟨bs, 0, none⟩))::u7::u8::u9::u10::u11::u12::u13::u14::u15::u16::u17::u18::u19::u20::u21::u22::u23::u24::u25::u26::u27::u28::u29::u30::u31::u32::u33::u34::u35::u36::u37::u38::u39::u40::u41::u42::u43::u44::u45::u46::u47::u48::u49::u50::u51::u52::u53::u54::u55::u56::u57::u58::u59::u60::u61::u62::u63::u64::u65::u66::u67::u68::u69::u70::u71::u72::u73::u74::u75::u76::u77::u78::u79::u80::u81::u82::u83::u84::u85::u86::u87::u88::u89::u90::u91::u92::u93::u94::u95::u96::u97::u98::u99::u100::u101::u102::u103::u104::u105::u106::u107::u108::u109::u110::u111::u112::u113::u114::u115::u116::u117::u118::u119::u120::u121::u122::u123::u124::u125::u126::u127::u128::u129::u130::u131::u132::u133::u134::u135::u136::u137::u138::u139::u140::u141::u142::u143::u144::u145::u146::u147::u148::u149::u150::u151::u152::u153::u154::u155::u156::u157::u158::u159::u160::u161::u162::u163::[]).toArray, []⟩ W := by
  conv => arg 2; whnf
  refine wp_only2 ?_
  have HK := Lib.hid hK
  clear hK
  have e1 : IntKind.i64.wrap ((n : Int) + 1) = ((n + 1 : Nat) : Int) := (IntWalk.i64_in _ (by omega)).trans (by omega)
  have hdp : W.cell? ⟨bs, 64, none⟩ = some (.int .i64 (n : Nat)) := by have := HD.depth; rw [hd] at this; exact this
  have fd := HD.fr 64
  have HF := Lib.hid (HD.setD ((n + 1 : Nat) : Int))
  clear HD hd hn
  go_wp2
  exact HK.out _ _ _ _ _ HF.out
set_option maxRecDepth 1000000 in
set_option maxHeartbeats 16000000 in
theorem piece12_22 (w0 W : World) (B r bs n : Nat) (V : SV) (v : Value) (es : List LEv) (hn : n < 16) (hd : V.d = ((n + 1 : Nat) : Int)) (HD : DcP w0 W B r bs V v es) (K : Act → World → Prop) (Q0 : Exit → Act → World → Prop)
    (hK : ∀ (d81 d82 d83 d84 : Value) (wx : World), DcP w0 wx B r bs { V with d := (n : Int) } v es → K ⟨(u0::u1::u2::u3::u4::u5::(Value.pointer (some ⟨bs, 0, none⟩))::u7::u8::u9::u10::u11::u12::u13::u14::u15::u16::u17::u18::u19::u20::u21::u22::u23::u24::u25::u26::u27::u28::u29::u30::u31::u32::u33::u34::u35::u36::u37::u38::u39::u40::u41::u42::u43::u44::u45::u46::u47::u48::u49::u50::u51::u52::u53::u54::u55::u56::u57::u58::u59::u60::u61::u62::u63::u64::u65::u66::u67::u68::u69::u70::u71::u72::u73::u74::u75::u76::u77::u78::u79::u80::d81::d82::d83::d84::u85::u86::u87::u88::u89::u90::u91::u92::u93::u94::u95::u96::u97::u98::u99::u100::u101::u102::u103::u104::u105::u106::u107::u108::u109::u110::u111::u112::u113::u114::u115::u116::u117::u118::u119::u120::u121::u122::u123::u124::u125::u126::u127::u128::u129::u130::u131::u132::u133::u134::u135::u136::u137::u138::u139::u140::u141::u142::u143::u144::u145::u146::u147::u148::u149::u150::u151::u152::u153::u154::u155::u156::u157::u158::u159::u160::u161::u162::u163::[]).toArray, []⟩ wx) :
    Code.wp Tryz.prog ((Tryz.f5.body.bind (dReg 22)).getD .skip) (Exit.then K Q0) ⟨(u0::u1::u2::u3::u4::u5::(Value.pointer (some ⟨bs, 0, none⟩))::u7::u8::u9::u10::u11::u12::u13::u14::u15::u16::u17::u18::u19::u20::u21::u22::u23::u24::u25::u26::u27::u28::u29::u30::u31::u32::u33::u34::u35::u36::u37::u38::u39::u40::u41::u42::u43::u44::u45::u46::u47::u48::u49::u50::u51::u52::u53::u54::u55::u56::u57::u58::u59::u60::u61::u62::u63::u64::u65::u66::u67::u68::u69::u70::u71::u72::u73::u74::u75::u76::u77::u78::u79::u80::u81::u82::u83::u84::u85::u86::u87::u88::u89::u90::u91::u92::u93::u94::u95::u96::u97::u98::u99::u100::u101::u102::u103::u104::u105::u106::u107::u108::u109::u110::u111::u112::u113::u114::u115::u116::u117::u118::u119::u120::u121::u122::u123::u124::u125::u126::u127::u128::u129::u130::u131::u132::u133::u134::u135::u136::u137::u138::u139::u140::u141::u142::u143::u144::u145::u146::u147::u148::u149::u150::u151::u152::u153::u154::u155::u156::u157::u158::u159::u160::u161::u162::u163::[]).toArray, []⟩ W := by
  conv => arg 2; whnf
  refine wp_only2 ?_
  have HK := Lib.hid hK
  clear hK
  have e2 : wrap64 (n : Int) = (n : Int) := IntWalk.wrap64_in _ (by omega)
  have e1 : IntKind.i64.wrap (((n + 1 : Nat) : Int) - 1) = (n : Int) := (IntWalk.i64_in _ (by omega)).trans (by omega)
  have hdp : W.cell? ⟨bs, 64, none⟩ = some (.int .i64 ((n + 1 : Nat) : Int)) := by have := HD.depth; rw [hd] at this; exact this
  have fd := HD.fr 64
  have HF := Lib.hid (HD.setD (n : Int))
  clear HD hd hn
  go_wp2
  exact HK.out _ _ _ _ _ HF.out
set_option maxRecDepth 1000000 in
set_option maxHeartbeats 16000000 in
theorem piece12_23 (w0 W : World) (B r bs n : Nat) (V : SV) (v : Value) (es : List LEv) (hn : n < 16) (hd : V.d = (n : Int)) (HD : DcP w0 W B r bs V v es) (K : Act → World → Prop) (Q0 : Exit → Act → World → Prop)
    (hK : ∀ (d85 d86 d87 d88 d89 : Value) (wx : World), DcP w0 wx B r bs (setFr V n 0 0) v es → K ⟨(u0::u1::u2::u3::u4::u5::(Value.pointer (some ⟨bs, 0, none⟩))::u7::u8::u9::u10::u11::u12::u13::u14::u15::u16::u17::u18::u19::u20::u21::u22::u23::u24::u25::u26::u27::u28::u29::u30::u31::u32::u33::u34::u35::u36::u37::u38::u39::u40::u41::u42::u43::u44::u45::u46::u47::u48::u49::u50::u51::u52::u53::u54::u55::u56::u57::u58::u59::u60::u61::u62::u63::u64::u65::u66::u67::u68::u69::u70::u71::u72::u73::u74::u75::u76::u77::u78::u79::u80::u81::u82::u83::u84::d85::d86::d87::d88::d89::u90::u91::u92::u93::u94::u95::u96::u97::u98::u99::u100::u101::u102::u103::u104::u105::u106::u107::u108::u109::u110::u111::u112::u113::u114::u115::u116::u117::u118::u119::u120::u121::u122::u123::u124::u125::u126::u127::u128::u129::u130::u131::u132::u133::u134::u135::u136::u137::u138::u139::u140::u141::u142::u143::u144::u145::u146::u147::u148::u149::u150::u151::u152::u153::u154::u155::u156::u157::u158::u159::u160::u161::u162::u163::[]).toArray, []⟩ wx) :
    Code.wp Tryz.prog ((Tryz.f5.body.bind (dReg 23)).getD .skip) (Exit.then K Q0) ⟨(u0::u1::u2::u3::u4::u5::(Value.pointer (some ⟨bs, 0, none⟩))::u7::u8::u9::u10::u11::u12::u13::u14::u15::u16::u17::u18::u19::u20::u21::u22::u23::u24::u25::u26::u27::u28::u29::u30::u31::u32::u33::u34::u35::u36::u37::u38::u39::u40::u41::u42::u43::u44::u45::u46::u47::u48::u49::u50::u51::u52::u53::u54::u55::u56::u57::u58::u59::u60::u61::u62::u63::u64::u65::u66::u67::u68::u69::u70::u71::u72::u73::u74::u75::u76::u77::u78::u79::u80::u81::u82::u83::u84::u85::u86::u87::u88::u89::u90::u91::u92::u93::u94::u95::u96::u97::u98::u99::u100::u101::u102::u103::u104::u105::u106::u107::u108::u109::u110::u111::u112::u113::u114::u115::u116::u117::u118::u119::u120::u121::u122::u123::u124::u125::u126::u127::u128::u129::u130::u131::u132::u133::u134::u135::u136::u137::u138::u139::u140::u141::u142::u143::u144::u145::u146::u147::u148::u149::u150::u151::u152::u153::u154::u155::u156::u157::u158::u159::u160::u161::u162::u163::[]).toArray, []⟩ W := by
  conv => arg 2; whnf
  refine wp_only2 ?_
  have HK := Lib.hid hK
  clear hK
  have p0 : (0 : Int) ≤ n := by omega
  have p1 : (n : Int) < 16 := by omega
  have hdp : W.cell? ⟨bs, 64, none⟩ = some (.int .i64 (n : Int)) := by have := HD.depth; rw [hd] at this; exact this
  have f0 := HD.fr (n * 4)
  have f1 := HD.fr (n * 4 + 1)
  have f2 := HD.fr (n * 4 + 2)
  have f3 := HD.fr (n * 4 + 3)
  have c0 := HD.cell (svL_fr V (j := n * 4) (by omega))
  have c1 := HD.cell (svL_fr V (j := n * 4 + 1) (by omega))
  have c2 := HD.cell (svL_fr V (j := n * 4 + 2) (by omega))
  have c3 := HD.cell (svL_fr V (j := n * 4 + 3) (by omega))
  have HF := Lib.hid (HD.frame hn 0 0)
  rw [show ((0 : Nat) : Int) = 0 from rfl] at HF
  clear HD hd hn
  go_wp2
  exact HK.out _ _ _ _ _ _ HF.out
set_option maxRecDepth 1000000 in
set_option maxHeartbeats 16000000 in
theorem piece12_30 (w0 W : World) (B r bs p : Nat) (s : LSt) (line : ByteArray) (v : Value) (es : List LEv) (hs : (line.size : Int) ≤ 65536) (HD : DcP w0 W B r bs (svP s) v es) (K : Act → World → Prop) (Q0 : Exit → Act → World → Prop)
    (hK : ∀ (bo : Nat) (vo : Value) (d110 d111 d112 d113 d114 d115 d116 : Value) (wx : World), wx.heap[bo]? = some (.cells (outA vo (scanE (bl line) (p : Nat) s.mark (s.count : Nat)).2) OT12) → RowE wx W.heap.size vo (scanE (bl line) (p : Nat) s.mark (s.count : Nat)).1 → Up W wx → K ⟨(u0::(Value.string line)::u2::u3::u4::u5::(Value.pointer (some ⟨bs, 0, none⟩))::u7::u8::(Value.int .i64 (p : Nat))::u10::u11::u12::(Value.pointer (some ⟨bo, 0, none⟩))::u14::u15::u16::u17::u18::u19::u20::u21::u22::u23::u24::u25::u26::u27::u28::u29::u30::u31::u32::u33::u34::u35::u36::u37::u38::u39::u40::u41::u42::u43::u44::u45::u46::u47::u48::u49::u50::u51::u52::u53::u54::u55::u56::u57::u58::u59::u60::u61::u62::u63::u64::u65::u66::u67::u68::u69::u70::u71::u72::u73::u74::u75::u76::u77::u78::u79::u80::u81::u82::u83::u84::u85::u86::u87::u88::u89::u90::u91::u92::u93::u94::u95::u96::u97::u98::u99::u100::u101::u102::u103::u104::u105::u106::u107::u108::u109::d110::d111::d112::d113::d114::d115::d116::u117::u118::u119::u120::u121::u122::u123::u124::u125::u126::u127::u128::u129::u130::u131::u132::u133::u134::u135::u136::u137::u138::u139::u140::u141::u142::u143::u144::u145::u146::u147::u148::u149::u150::u151::u152::u153::u154::u155::u156::u157::u158::u159::u160::u161::u162::u163::[]).toArray, []⟩ wx) :
    Code.wp Tryz.prog ((Tryz.f5.body.bind (dReg 30)).getD .skip) (Exit.then K Q0) ⟨(u0::(Value.string line)::u2::u3::u4::u5::(Value.pointer (some ⟨bs, 0, none⟩))::u7::u8::(Value.int .i64 (p : Nat))::u10::u11::u12::u13::u14::u15::u16::u17::u18::u19::u20::u21::u22::u23::u24::u25::u26::u27::u28::u29::u30::u31::u32::u33::u34::u35::u36::u37::u38::u39::u40::u41::u42::u43::u44::u45::u46::u47::u48::u49::u50::u51::u52::u53::u54::u55::u56::u57::u58::u59::u60::u61::u62::u63::u64::u65::u66::u67::u68::u69::u70::u71::u72::u73::u74::u75::u76::u77::u78::u79::u80::u81::u82::u83::u84::u85::u86::u87::u88::u89::u90::u91::u92::u93::u94::u95::u96::u97::u98::u99::u100::u101::u102::u103::u104::u105::u106::u107::u108::u109::u110::u111::u112::u113::u114::u115::u116::u117::u118::u119::u120::u121::u122::u123::u124::u125::u126::u127::u128::u129::u130::u131::u132::u133::u134::u135::u136::u137::u138::u139::u140::u141::u142::u143::u144::u145::u146::u147::u148::u149::u150::u151::u152::u153::u154::u155::u156::u157::u158::u159::u160::u161::u162::u163::[]).toArray, []⟩ W := by
  conv => arg 2; whnf
  refine wp_only2 ?_
  have HK := Lib.hid hK
  clear hK
  have HSC := Lib.hid (fun W' => refScan11 W' line (p : Nat) s.mark (s.count : Nat) (by omega))
  have cm : W.cell? ⟨bs, 66, none⟩ = some (.int .u8 (s.mark : Nat)) := HD.mark
  have cc : W.cell? ⟨bs, 68, none⟩ = some (.int .i64 (s.count : Nat)) := HD.count
  generalize scanE (bl line) (p : Nat) s.mark (s.count : Nat) = RR at *
  obtain ⟨fs, st⟩ := RR
  dsimp only at HSC
  clear HD hs
  unfold outA at HSC
  go_wp2_with (go_at_call 19; ((with_reducible refine (HSC.out _).mono ?_); rintro e w1 ⟨vo, rfl, hrow, hu⟩; obtain ⟨A, cc, rfl⟩ := own_slice hrow; have HR := Lib.hid hrow; have HU := Lib.hid hu; clear hrow hu))
  exact HK.out _ _ _ _ _ _ _ _ _ _ (Go.heap_alloc_new _ _) (rowE_up HR.out (Up.alloc _ _)) (HU.out.trans (Up.alloc _ _))
set_option maxRecDepth 1000000 in
set_option maxHeartbeats 16000000 in
theorem piece12_31 (w0 W : World) (B r bs bo b2 : Nat) (V : SV) (v vo : Value) (es : List LEv) (fs : List PEv) (st : PSt) (hl : es.length ≤ 900000) (hf : fs.length ≤ 90000) (HD : DcP w0 W B r bs V v es) (ho : W.heap[bo]? = some (.cells (outA vo st) OT12)) (hrow : RowE W b2 vo fs) (K : Act → World → Prop) (Q0 : Exit → Act → World → Prop)
    (hK : ∀ (v' : Value) (d117 d118 d119 d120 : Value) (wx : World), DcP w0 wx B r bs V v' (es ++ fs.map lfE) → wx.heap[bo]? = some (.cells (outA vo st) OT12) → K ⟨(u0::u1::u2::u3::u4::u5::u6::v'::u8::u9::u10::u11::u12::(Value.pointer (some ⟨bo, 0, none⟩))::u14::u15::u16::u17::u18::u19::u20::u21::u22::u23::u24::u25::u26::u27::u28::u29::u30::u31::u32::u33::u34::u35::u36::u37::u38::u39::u40::u41::u42::u43::u44::u45::u46::u47::u48::u49::u50::u51::u52::u53::u54::u55::u56::u57::u58::u59::u60::u61::u62::u63::u64::u65::u66::u67::u68::u69::u70::u71::u72::u73::u74::u75::u76::u77::u78::u79::u80::u81::u82::u83::u84::u85::u86::u87::u88::u89::u90::u91::u92::u93::u94::u95::u96::u97::u98::u99::u100::u101::u102::u103::u104::u105::u106::u107::u108::u109::u110::u111::u112::u113::u114::u115::u116::d117::d118::d119::d120::u121::u122::u123::u124::u125::u126::u127::u128::u129::u130::u131::u132::u133::u134::u135::u136::u137::u138::u139::u140::u141::u142::u143::u144::u145::u146::u147::u148::u149::u150::u151::u152::u153::u154::u155::u156::u157::u158::u159::u160::u161::u162::u163::[]).toArray, []⟩ wx) :
    Code.wp Tryz.prog ((Tryz.f5.body.bind (dReg 31)).getD .skip) (Exit.then K Q0) ⟨(u0::u1::u2::u3::u4::u5::u6::v::u8::u9::u10::u11::u12::(Value.pointer (some ⟨bo, 0, none⟩))::u14::u15::u16::u17::u18::u19::u20::u21::u22::u23::u24::u25::u26::u27::u28::u29::u30::u31::u32::u33::u34::u35::u36::u37::u38::u39::u40::u41::u42::u43::u44::u45::u46::u47::u48::u49::u50::u51::u52::u53::u54::u55::u56::u57::u58::u59::u60::u61::u62::u63::u64::u65::u66::u67::u68::u69::u70::u71::u72::u73::u74::u75::u76::u77::u78::u79::u80::u81::u82::u83::u84::u85::u86::u87::u88::u89::u90::u91::u92::u93::u94::u95::u96::u97::u98::u99::u100::u101::u102::u103::u104::u105::u106::u107::u108::u109::u110::u111::u112::u113::u114::u115::u116::u117::u118::u119::u120::u121::u122::u123::u124::u125::u126::u127::u128::u129::u130::u131::u132::u133::u134::u135::u136::u137::u138::u139::u140::u141::u142::u143::u144::u145::u146::u147::u148::u149::u150::u151::u152::u153::u154::u155::u156::u157::u158::u159::u160::u161::u162::u163::[]).toArray, []⟩ W := by
  conv => arg 2; whnf
  refine wp_only2 ?_
  have HK := Lib.hid hK
  clear hK
  obtain ⟨i0, hi0, hz0, hz1, hz2⟩ := info_parts infoEvent
  have k0 : W.cell? ⟨bo, 0, none⟩ = some vo := cellOf (j := 0) ho rfl
  have HOWN : W.ownsRow B ET 4 v es.length (levCells es) := HD.row
  have HSRC : W.ownsRow b2 ET 4 vo fs.length (evCells fs) := hrow
  have hone := ev_one fs
  have b1 : es.length + fs.length ≤ maxLen := by unfold maxLen; omega
  have b3 : (es.length + fs.length) * 24 ≤ 140737488355328 := by omega
  have hb0 := HD.top
  have HAP := Lib.hid (fun (w5 : World) (v5 : Value) (hg : W.grownBy w5 v.ownBlock) (h5 : w5.ownsRow B ET 4 v5 (es.length + (fs.map lfE).length) (levCells es ++ levCells (fs.map lfE))) => HD.apps (fs := fs.map lfE) (Up.refl W) hg h5)
  have HOB := Lib.hid (fun (w5 : World) (hg : W.grownBy w5 v.ownBlock) => (show w5.heap[bo]? = some (.cells (outA vo st) OT12) from by
    rw [hg.block bo (Array.getElem?_eq_some_iff.1 ho).1 (fun e => by
      obtain ⟨cs, fr, h⟩ := row_ev HD.row e.symm
      rw [ho] at h
      injection h with h
      injection h with _ h
      exact absurd h (by decide +kernel))]
    exact ho))
  clear HD ho hrow hl hf
  go_wp2_with (at_builtin; (refine wpList_append_row (by rfl) _ _ _ (by rfl) B b2 ET i0 (.agg #[.int .u8 0, .int .u8 0, .int .i64 0, .int .i64 0]) 4 24 Tryz.underlying30 hi0 hz0 hz1 hz2 rfl (by decide) _ es.length (levCells es) (by rfl) HOWN _ fs.length (evCells fs) (by rfl) HSRC hone b1 b3 hb0 ?_; intro A5 cap5 w5 hown5 hgrow; have HF := Lib.hid (HAP.out _ _ hgrow (by rw [levCells_lf, List.length_map]; exact hown5)); have HO := Lib.hid (HOB.out _ hgrow); clear hown5 hgrow))
  exact HK.out _ _ _ _ _ _ HF.out HO.out
end Go.Proofs.YtmfcapbllbfjnaaGreatDoor

namespace Go.Proofs.YtmfcapbllbfjnaaGreatDoor
open Go.RowKit
variable {u0 u1 u2 u3 u4 u5 u6 u7 u8 u9 u10 u11 u12 u13 u14 u15 u16 u17 u18 u19 u20 u21 u22 u23 u24 u25 u26 u27 u28 u29 u30 u31 u32 u33 u34 u35 u36 u37 u38 u39 u40 u41 u42 u43 u44 u45 u46 u47 u48 u49 u50 u51 u52 u53 u54 u55 u56 u57 u58 u59 u60 u61 u62 u63 u64 u65 u66 u67 u68 u69 u70 u71 u72 u73 u74 u75 u76 u77 u78 u79 u80 u81 u82 u83 u84 u85 u86 u87 u88 u89 u90 u91 u92 u93 u94 u95 u96 u97 u98 u99 u100 u101 u102 u103 u104 u105 u106 u107 u108 u109 u110 u111 u112 u113 u114 u115 u116 u117 u118 u119 u120 u121 u122 u123 u124 u125 u126 u127 u128 u129 u130 u131 u132 u133 u134 u135 u136 u137 u138 u139 u140 u141 u142 u143 u144 u145 u146 u147 u148 u149 u150 u151 u152 u153 u154 u155 u156 u157 u158 u159 u160 u161 u162 u163 : Value}
attribute [local go_sem ↓] ldS_eq stS_eq elS_eq neS_eq zrS_eq bdS_eq
attribute [local go_sem] ldS_run stS_run elS_run neS_run zrS_run bdS_run0 bdS_run1 g0_rule ldV_drew ldV_drewN

set_option maxRecDepth 1000000 in
set_option maxHeartbeats 16000000 in
theorem tail30_any (w0 W : World) (B r bs bo b2 E : Nat) (s : LSt) (v vo : Value) (es : List LEv) (fs : List PEv) (st : PSt) (hl : es.length ≤ 900000) (hf : fs.length ≤ 90000) (h0 : 0 ≤ st.depth) (HD : DcP w0 W B r bs (svP s) v es) (ho : W.heap[bo]? = some (.cells (outA vo st) OT12)) (hrow : RowE W b2 vo fs) (hok : LOk (readL s.cols s.flags (fs, st) E).2) (Q : Exit → Act → World → Prop) (hQ : Fin12 w0 r (es ++ (readL s.cols s.flags (fs, st) E).1) (readL s.cols s.flags (fs, st) E).2 Q) :
    Code.wp Tryz.prog dTail30 Q ⟨(u0::u1::u2::u3::u4::(Value.pointer (some ⟨r, 0, none⟩))::(Value.pointer (some ⟨bs, 0, none⟩))::v::(Value.int .i64 (E : Nat))::u9::u10::u11::u12::(Value.pointer (some ⟨bo, 0, none⟩))::u14::u15::u16::u17::u18::u19::u20::u21::u22::u23::u24::u25::u26::u27::u28::u29::u30::u31::u32::u33::u34::u35::u36::u37::u38::u39::u40::u41::u42::u43::u44::u45::u46::u47::u48::u49::u50::u51::u52::u53::u54::u55::u56::u57::u58::u59::u60::u61::u62::u63::u64::u65::u66::u67::u68::u69::u70::u71::u72::u73::u74::u75::u76::u77::u78::u79::u80::u81::u82::u83::u84::u85::u86::u87::u88::u89::u90::u91::u92::u93::u94::u95::u96::u97::u98::u99::u100::u101::u102::u103::u104::u105::u106::u107::u108::u109::u110::u111::u112::u113::u114::u115::u116::u117::u118::u119::u120::u121::u122::u123::u124::u125::u126::u127::u128::u129::u130::u131::u132::u133::u134::u135::u136::u137::u138::u139::u140::u141::u142::u143::u144::u145::u146::u147::u148::u149::u150::u151::u152::u153::u154::u155::u156::u157::u158::u159::u160::u161::u162::u163::[]).toArray, []⟩ W := by
  conv => arg 2; whnf
  go_upto_region 31 with fail
  refine piece12_31 w0 W B r bs bo b2 (svP s) v vo es fs st hl hf HD ho hrow _ _ ?_
  intro v' _ _ _ _ wx HD2 ho2
  apply_assumption
  have hl2 : (es ++ fs.map lfE).length ≤ 1000000 := by rw [List.length_append, List.length_map]; omega
  obtain ⟨m, d, j, ss, cc⟩ := st
  dsimp only at h0
  cases ss with
  | true =>
    cases cc with
    | true =>
      cases j with
      | true =>
        have hr : readL s.cols s.flags (fs, ⟨m, d, true, true, true⟩) E = (fs.map lfE, ⟨s.cols, 1, m, 2, d.toNat⟩) := by unfold readL; simp
        rw [hr] at hok hQ
        dsimp only at hok hQ
        exact tail12_stj w0 wx B r bs bo E s v' vo (es ++ fs.map lfE) m d h0 hl2 (Lib.hid HD2) ho2 hok Q hQ 
      | false =>
        by_cases hm : m ≠ 0
        · skip
          have hr : readL s.cols s.flags (fs, ⟨m, d, false, true, true⟩) E = (fs.map lfE, ⟨s.cols, 1, m, 2, d.toNat⟩) := by unfold readL; simp [hm]
          rw [hr] at hok hQ
          dsimp only at hok hQ
          exact tail12_stm w0 wx B r bs bo E s v' vo (es ++ fs.map lfE) m d hm h0 hl2 (Lib.hid HD2) ho2 hok Q hQ 
        · obtain rfl : m = 0 := by omega
          by_cases hd : 0 < d
          · skip
            have hr : readL s.cols s.flags (fs, ⟨0, d, false, true, true⟩) E = (fs.map lfE, ⟨s.cols, 1, 0, 2, d.toNat⟩) := by unfold readL; simp [hd]
            rw [hr] at hok hQ
            dsimp only at hok hQ
            exact tail12_std w0 wx B r bs bo E s v' vo (es ++ fs.map lfE) d hd hl2 (Lib.hid HD2) ho2 hok Q hQ 
          · obtain rfl : d = 0 := by omega
            have hr : readL s.cols s.flags (fs, ⟨0, 0, false, true, true⟩) E = (fs.map lfE ++ [evC 12 E], ⟨s.cols, 0, 0, 1, 0⟩) := by unfold readL; simp
            rw [hr] at hok hQ
            dsimp only at hok hQ
            rw [← List.append_assoc] at hQ
            exact tail12_stn w0 wx B r bs bo E s v' vo (es ++ fs.map lfE)  hl2 (Lib.hid HD2) ho2 hok Q hQ 
    | false =>
      cases j with
      | true =>
        have hr : readL s.cols s.flags (fs, ⟨m, d, true, true, false⟩) E = (fs.map lfE, ⟨s.cols, 1, m, 0, d.toNat⟩) := by unfold readL; simp
        rw [hr] at hok hQ
        dsimp only at hok hQ
        exact tail12_sfj w0 wx B r bs bo E s v' vo (es ++ fs.map lfE) m d h0 hl2 (Lib.hid HD2) ho2 hok Q hQ 
      | false =>
        by_cases hm : m ≠ 0
        · skip
          have hr : readL s.cols s.flags (fs, ⟨m, d, false, true, false⟩) E = (fs.map lfE, ⟨s.cols, 1, m, 0, d.toNat⟩) := by unfold readL; simp [hm]
          rw [hr] at hok hQ
          dsimp only at hok hQ
          exact tail12_sfm w0 wx B r bs bo E s v' vo (es ++ fs.map lfE) m d hm h0 hl2 (Lib.hid HD2) ho2 hok Q hQ 
        · obtain rfl : m = 0 := by omega
          by_cases hd : 0 < d
          · skip
            have hr : readL s.cols s.flags (fs, ⟨0, d, false, true, false⟩) E = (fs.map lfE, ⟨s.cols, 1, 0, 0, d.toNat⟩) := by unfold readL; simp [hd]
            rw [hr] at hok hQ
            dsimp only at hok hQ
            exact tail12_sfd w0 wx B r bs bo E s v' vo (es ++ fs.map lfE) d hd hl2 (Lib.hid HD2) ho2 hok Q hQ 
          · obtain rfl : d = 0 := by omega
            have hr : readL s.cols s.flags (fs, ⟨0, 0, false, true, false⟩) E = (fs.map lfE ++ [evC 11 E], ⟨s.cols, 0, 0, 0, 0⟩) := by unfold readL; simp
            rw [hr] at hok hQ
            dsimp only at hok hQ
            rw [← List.append_assoc] at hQ
            exact tail12_sfn w0 wx B r bs bo E s v' vo (es ++ fs.map lfE)  hl2 (Lib.hid HD2) ho2 hok Q hQ 
  | false =>
    by_cases hfl : s.flags = 2
    · skip
      cases j with
      | true =>
        have hr : readL s.cols s.flags (fs, ⟨m, d, true, false, cc⟩) E = (fs.map lfE, ⟨s.cols, 1, m, 2, d.toNat⟩) := by unfold readL; simp [hfl]
        rw [hr] at hok hQ
        dsimp only at hok hQ
        exact tail12_ftj w0 wx B r bs bo E s v' vo (es ++ fs.map lfE) m d cc hfl h0 hl2 (Lib.hid HD2) ho2 hok Q hQ 
      | false =>
        by_cases hm : m ≠ 0
        · skip
          have hr : readL s.cols s.flags (fs, ⟨m, d, false, false, cc⟩) E = (fs.map lfE, ⟨s.cols, 1, m, 2, d.toNat⟩) := by unfold readL; simp [hm, hfl]
          rw [hr] at hok hQ
          dsimp only at hok hQ
          exact tail12_ftm w0 wx B r bs bo E s v' vo (es ++ fs.map lfE) m d cc hfl hm h0 hl2 (Lib.hid HD2) ho2 hok Q hQ 
        · obtain rfl : m = 0 := by omega
          by_cases hd : 0 < d
          · skip
            have hr : readL s.cols s.flags (fs, ⟨0, d, false, false, cc⟩) E = (fs.map lfE, ⟨s.cols, 1, 0, 2, d.toNat⟩) := by unfold readL; simp [hd, hfl]
            rw [hr] at hok hQ
            dsimp only at hok hQ
            exact tail12_ftd w0 wx B r bs bo E s v' vo (es ++ fs.map lfE) d cc hfl hd hl2 (Lib.hid HD2) ho2 hok Q hQ 
          · obtain rfl : d = 0 := by omega
            have hr : readL s.cols s.flags (fs, ⟨0, 0, false, false, cc⟩) E = (fs.map lfE ++ [evC 12 E], ⟨s.cols, 0, 0, 1, 0⟩) := by unfold readL; simp [hfl]
            rw [hr] at hok hQ
            dsimp only at hok hQ
            rw [← List.append_assoc] at hQ
            exact tail12_ftn w0 wx B r bs bo E s v' vo (es ++ fs.map lfE)  cc hfl hl2 (Lib.hid HD2) ho2 hok Q hQ 
    · have hfl : s.flags ≠ 2 := hfl
      cases j with
      | true =>
        have hr : readL s.cols s.flags (fs, ⟨m, d, true, false, cc⟩) E = (fs.map lfE, ⟨s.cols, 1, m, 0, d.toNat⟩) := by unfold readL; simp [hfl]
        rw [hr] at hok hQ
        dsimp only at hok hQ
        exact tail12_ffj w0 wx B r bs bo E s v' vo (es ++ fs.map lfE) m d cc hfl h0 hl2 (Lib.hid HD2) ho2 hok Q hQ 
      | false =>
        by_cases hm : m ≠ 0
        · skip
          have hr : readL s.cols s.flags (fs, ⟨m, d, false, false, cc⟩) E = (fs.map lfE, ⟨s.cols, 1, m, 0, d.toNat⟩) := by unfold readL; simp [hm, hfl]
          rw [hr] at hok hQ
          dsimp only at hok hQ
          exact tail12_ffm w0 wx B r bs bo E s v' vo (es ++ fs.map lfE) m d cc hfl hm h0 hl2 (Lib.hid HD2) ho2 hok Q hQ 
        · obtain rfl : m = 0 := by omega
          by_cases hd : 0 < d
          · skip
            have hr : readL s.cols s.flags (fs, ⟨0, d, false, false, cc⟩) E = (fs.map lfE, ⟨s.cols, 1, 0, 0, d.toNat⟩) := by unfold readL; simp [hd, hfl]
            rw [hr] at hok hQ
            dsimp only at hok hQ
            exact tail12_ffd w0 wx B r bs bo E s v' vo (es ++ fs.map lfE) d cc hfl hd hl2 (Lib.hid HD2) ho2 hok Q hQ 
          · obtain rfl : d = 0 := by omega
            have hr : readL s.cols s.flags (fs, ⟨0, 0, false, false, cc⟩) E = (fs.map lfE ++ [evC 11 E], ⟨s.cols, 0, 0, 0, 0⟩) := by unfold readL; simp [hfl]
            rw [hr] at hok hQ
            dsimp only at hok hQ
            rw [← List.append_assoc] at hQ
            exact tail12_ffn w0 wx B r bs bo E s v' vo (es ++ fs.map lfE)  cc hfl hl2 (Lib.hid HD2) ho2 hok Q hQ 
end Go.Proofs.YtmfcapbllbfjnaaGreatDoor

namespace Go.Proofs.YtmfcapbllbfjnaaGreatDoor
open Go.RowKit
variable {u0 u1 u2 u3 u4 u5 u6 u7 u8 u9 u10 u11 u12 u13 u14 u15 u16 u17 u18 u19 u20 u21 u22 u23 u24 u25 u26 u27 u28 u29 u30 u31 u32 u33 u34 u35 u36 u37 u38 u39 u40 u41 u42 u43 u44 u45 u46 u47 u48 u49 u50 u51 u52 u53 u54 u55 u56 u57 u58 u59 u60 u61 u62 u63 u64 u65 u66 u67 u68 u69 u70 u71 u72 u73 u74 u75 u76 u77 u78 u79 u80 u81 u82 u83 u84 u85 u86 u87 u88 u89 u90 u91 u92 u93 u94 u95 u96 u97 u98 u99 u100 u101 u102 u103 u104 u105 u106 u107 u108 u109 u110 u111 u112 u113 u114 u115 u116 u117 u118 u119 u120 u121 u122 u123 u124 u125 u126 u127 u128 u129 u130 u131 u132 u133 u134 u135 u136 u137 u138 u139 u140 u141 u142 u143 u144 u145 u146 u147 u148 u149 u150 u151 u152 u153 u154 u155 u156 u157 u158 u159 u160 u161 u162 u163 : Value}
attribute [local go_sem ↓] ldS_eq stS_eq elS_eq neS_eq zrS_eq bdS_eq
attribute [local go_sem] ldS_run stS_run elS_run neS_run zrS_run bdS_run0 bdS_run1 g0_rule ldV_drew ldV_drewN

noncomputable def dBody : Code := ((Tryz.f5.body.bind (dRest 4)).getD .skip)
set_option maxRecDepth 1000000 in
set_option maxHeartbeats 16000000 in
theorem piece12_29 (w0 W : World) (B r bs : Nat) (V : SV) (v : Value) (es : List LEv) (HD : DcP w0 W B r bs V v es) (K : Act → World → Prop) (Q0 : Exit → Act → World → Prop)
    (hK : ∀ (d109 : Value) (wx : World), DcP w0 wx B r bs { V with fl := 0 } v es → K ⟨(u0::u1::u2::u3::u4::u5::(Value.pointer (some ⟨bs, 0, none⟩))::u7::u8::u9::u10::u11::u12::u13::u14::u15::u16::u17::u18::u19::u20::u21::u22::u23::u24::u25::u26::u27::u28::u29::u30::u31::u32::u33::u34::u35::u36::u37::u38::u39::u40::u41::u42::u43::u44::u45::u46::u47::u48::u49::u50::u51::u52::u53::u54::u55::u56::u57::u58::u59::u60::u61::u62::u63::u64::u65::u66::u67::u68::u69::u70::u71::u72::u73::u74::u75::u76::u77::u78::u79::u80::u81::u82::u83::u84::u85::u86::u87::u88::u89::u90::u91::u92::u93::u94::u95::u96::u97::u98::u99::u100::u101::u102::u103::u104::u105::u106::u107::u108::d109::u110::u111::u112::u113::u114::u115::u116::u117::u118::u119::u120::u121::u122::u123::u124::u125::u126::u127::u128::u129::u130::u131::u132::u133::u134::u135::u136::u137::u138::u139::u140::u141::u142::u143::u144::u145::u146::u147::u148::u149::u150::u151::u152::u153::u154::u155::u156::u157::u158::u159::u160::u161::u162::u163::[]).toArray, []⟩ wx) :
    Code.wp Tryz.prog ((Tryz.f5.body.bind (dReg 29)).getD .skip) (Exit.then K Q0) ⟨(u0::u1::u2::u3::u4::u5::(Value.pointer (some ⟨bs, 0, none⟩))::u7::u8::u9::u10::u11::u12::u13::u14::u15::u16::u17::u18::u19::u20::u21::u22::u23::u24::u25::u26::u27::u28::u29::u30::u31::u32::u33::u34::u35::u36::u37::u38::u39::u40::u41::u42::u43::u44::u45::u46::u47::u48::u49::u50::u51::u52::u53::u54::u55::u56::u57::u58::u59::u60::u61::u62::u63::u64::u65::u66::u67::u68::u69::u70::u71::u72::u73::u74::u75::u76::u77::u78::u79::u80::u81::u82::u83::u84::u85::u86::u87::u88::u89::u90::u91::u92::u93::u94::u95::u96::u97::u98::u99::u100::u101::u102::u103::u104::u105::u106::u107::u108::u109::u110::u111::u112::u113::u114::u115::u116::u117::u118::u119::u120::u121::u122::u123::u124::u125::u126::u127::u128::u129::u130::u131::u132::u133::u134::u135::u136::u137::u138::u139::u140::u141::u142::u143::u144::u145::u146::u147::u148::u149::u150::u151::u152::u153::u154::u155::u156::u157::u158::u159::u160::u161::u162::u163::[]).toArray, []⟩ W := by
  conv => arg 2; whnf
  refine wp_only2 ?_
  have HK := Lib.hid hK
  clear hK
  have cf := HD.flags
  have ff := HD.fr 67
  have HF := Lib.hid (HD.setFl 0)
  rw [show ((0 : Nat) : Int) = 0 from rfl] at HF
  clear HD
  go_wp2
  exact HK.out _ _ HF.out
theorem readL_flag {cols : List Nat} {f : Nat} {R : List PEv × PSt} {E : Nat} (h : f ≤ 1) : readL cols f R E = readL cols 0 R E := by
  have e : (f == 2) = ((0 : Nat) == 2) := by rw [beq_eq_false_iff_ne.2 (by omega)]; rfl
  unfold readL
  rw [e]
theorem lenE2 {line : ByteArray} (hs : (line.size : Int) ≤ 65536) (a : Int) (m : Nat) (d : Int) : (scanE (bl line) a m d).1.length ≤ 90000 := by
  have := lenE (bl line) a m d
  rw [bl_len] at this
  omega
/-- The state behind the layout of a line. -/
def st3 (s : LSt) (cols : List Nat) : LSt := { s with cols := cols, flags := 0 }
theorem scan_lay {s : LSt} {line : ByteArray} (hm : s.mode = 0) (hfl : s.flags ≤ 1) (h : ¬ ((indL (bl line) 0).1 = endL (bl line) ∨ bt line (indL (bl line) 0).1 = 35)) {L : List LEv} {C : List Nat} (hl : layL s.cols s.flags (indL (bl line) 0).1 (indL (bl line) 0).2 = (L, C)) :
    scanP s (bl line) = (L ++ [evO 11 (indL (bl line) 0).1] ++ (readL (st3 s C).cols (st3 s C).flags (scanE (bl line) ((indL (bl line) 0).1 : Nat) (st3 s C).mark ((st3 s C).count : Nat)) (endL (bl line))).1, (readL (st3 s C).cols (st3 s C).flags (scanE (bl line) ((indL (bl line) 0).1 : Nat) (st3 s C).mark ((st3 s C).count : Nat)) (endL (bl line))).2) := by
  rw [scanP_full hm h, hl]
  dsimp only
  rw [readL_flag hfl]
  rfl
end Go.Proofs.YtmfcapbllbfjnaaGreatDoor
