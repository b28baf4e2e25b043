/- The document's Scan: the layout of a line. The document's Scan: the layout of a line. The document's Scan: the layout of a line. The document's Scan: the layout of a line. The document's Scan: the layout of a line. The document's Scan: the layout of a line. The document's Scan: the layout of a line. The document's Scan, whole: its start, its body by cases. -/
import Derived.Test.YtmfcapbllbfjnaaGreatDoorDB
import Derived.Test.YtmfcapbllbfjnaaGreatDoorOPScan
import Derived.Test.YtmfcapbllbfjnaaGreatDoorORefM
namespace Go.Proofs.YtmfcapbllbfjnaaGreatDoor
open Go.RowKit
variable {u0 u1 u2 u3 u4 u5 u6 u7 u8 u9 u10 u11 u12 u13 u14 u15 u16 u17 u18 u19 u20 u21 u22 u23 u24 u25 u26 u27 u28 u29 u30 u31 u32 u33 u34 u35 u36 u37 u38 u39 u40 u41 u42 u43 u44 u45 u46 u47 u48 u49 u50 u51 u52 u53 u54 u55 u56 u57 u58 u59 u60 u61 u62 u63 u64 u65 u66 u67 u68 u69 u70 u71 u72 u73 u74 u75 u76 u77 u78 u79 u80 u81 u82 u83 u84 u85 u86 u87 u88 u89 u90 u91 u92 u93 u94 u95 u96 u97 u98 u99 u100 u101 u102 u103 u104 u105 u106 u107 u108 u109 u110 u111 u112 u113 u114 u115 u116 u117 u118 u119 u120 u121 u122 u123 u124 u125 u126 u127 u128 u129 u130 u131 u132 u133 u134 u135 u136 u137 u138 u139 u140 u141 u142 u143 u144 u145 u146 u147 u148 u149 u150 u151 u152 u153 u154 u155 u156 u157 u158 u159 u160 u161 u162 u163 : Value}
attribute [local go_sem ↓] ldS_eq stS_eq elS_eq neS_eq zrS_eq bdS_eq
attribute [local go_sem] ldS_run stS_run elS_run neS_run zrS_run bdS_run0 bdS_run1 g0_rule ldV_drew ldV_drewN

set_option maxRecDepth 1000000 in
set_option maxHeartbeats 16000000 in
theorem lay12_in (w0 W : World) (B r bs : Nat) (s : LSt) (line : ByteArray) (hs : (line.size : Int) ≤ 65536) (hok : LOk s) (hm : s.mode = 1) (HD : DcP w0 W B r bs (svP s) (.slice none 0 0) []) (Q : Exit → Act → World → Prop) (hQ : Fin12 w0 r (scanP s (bl line)).1 (scanP s (bl line)).2 Q) :
    Code.wp Tryz.prog dBody Q ⟨(u0::(Value.string line)::u2::u3::u4::(Value.pointer (some ⟨r, 0, none⟩))::(Value.pointer (some ⟨bs, 0, none⟩))::(Value.slice none 0 0)::u8::u9::u10::u11::u12::u13::u14::u15::u16::u17::u18::u19::u20::u21::u22::u23::u24::u25::u26::u27::u28::u29::u30::u31::u32::u33::u34::u35::u36::u37::u38::u39::u40::u41::u42::u43::u44::u45::u46::u47::u48::u49::u50::u51::u52::u53::u54::u55::u56::u57::u58::u59::u60::u61::u62::u63::u64::u65::u66::u67::u68::u69::u70::u71::u72::u73::u74::u75::u76::u77::u78::u79::u80::u81::u82::u83::u84::u85::u86::u87::u88::u89::u90::u91::u92::u93::u94::u95::u96::u97::u98::u99::u100::u101::u102::u103::u104::u105::u106::u107::u108::u109::u110::u111::u112::u113::u114::u115::u116::u117::u118::u119::u120::u121::u122::u123::u124::u125::u126::u127::u128::u129::u130::u131::u132::u133::u134::u135::u136::u137::u138::u139::u140::u141::u142::u143::u144::u145::u146::u147::u148::u149::u150::u151::u152::u153::u154::u155::u156::u157::u158::u159::u160::u161::u162::u163::[]).toArray, []⟩ W := by
  conv => arg 2; whnf
  have HE := Lib.hid (fun W => end_any line W (by omega))
  have cm : W.cell? ⟨bs, 65, none⟩ = some (.int .u8 1) := by have := HD.mode; change _ = some (Value.int .u8 ((s.mode : Nat) : Int)) at this; rw [hm] at this; exact this
  have HDD := Lib.hid HD
  have HQ := Lib.hid hQ
  have HOK := Lib.hid hok
  have HSZ := Lib.hid hs
  have hsp : scanP s (bl line) = readL s.cols s.flags (scanE (bl line) ((0 : Nat) : Int) s.mark (s.count : Nat)) (endL (bl line)) := by unfold scanP; rw [if_neg (by omega)]; rfl
  have HSP := Lib.hid hsp
  clear HD hQ hok hs hm hsp
  go_upto_region 30 with (go_at_call 16; ((with_reducible refine (HE.out _).mono ?_); rintro e wE ⟨rfl, rfl⟩))
  refine piece12_30 w0 W B r bs 0 s line _ [] HSZ.out HDD.out _ _  ?_
  intro bo vo _ _ _ _ _ _ _ wx ho hrow hu
  apply_assumption
  have hsc := scanP_ok HOK.out (l := bl line) (by rw [bl_len]; have := HSZ.out; omega)
  rw [HSP.out] at hsc
  have hq := HQ.out
  rw [HSP.out] at hq
  exact tail30_any w0 wx B r bs bo W.heap.size (endL (bl line)) s _ vo [] _ _ (by simp) (lenE2 HSZ.out _ _ _) (scanE_ok _ _ _ _).d0 (HDD.out.more hu) ho hrow hsc Q (by rw [List.nil_append]; exact hq) 
set_option maxRecDepth 1000000 in
set_option maxHeartbeats 16000000 in
theorem lay12_empty (w0 W : World) (B r bs : Nat) (s : LSt) (line : ByteArray) (hs : (line.size : Int) ≤ 65536) (hok : LOk s) (hm : s.mode = 0) (he : (indL (bl line) 0).1 = endL (bl line)) (HD : DcP w0 W B r bs (svP s) (.slice none 0 0) []) (Q : Exit → Act → World → Prop) (hQ : Fin12 w0 r (scanP s (bl line)).1 (scanP s (bl line)).2 Q) :
    Code.wp Tryz.prog dBody Q ⟨(u0::(Value.string line)::u2::u3::u4::(Value.pointer (some ⟨r, 0, none⟩))::(Value.pointer (some ⟨bs, 0, none⟩))::(Value.slice none 0 0)::u8::u9::u10::u11::u12::u13::u14::u15::u16::u17::u18::u19::u20::u21::u22::u23::u24::u25::u26::u27::u28::u29::u30::u31::u32::u33::u34::u35::u36::u37::u38::u39::u40::u41::u42::u43::u44::u45::u46::u47::u48::u49::u50::u51::u52::u53::u54::u55::u56::u57::u58::u59::u60::u61::u62::u63::u64::u65::u66::u67::u68::u69::u70::u71::u72::u73::u74::u75::u76::u77::u78::u79::u80::u81::u82::u83::u84::u85::u86::u87::u88::u89::u90::u91::u92::u93::u94::u95::u96::u97::u98::u99::u100::u101::u102::u103::u104::u105::u106::u107::u108::u109::u110::u111::u112::u113::u114::u115::u116::u117::u118::u119::u120::u121::u122::u123::u124::u125::u126::u127::u128::u129::u130::u131::u132::u133::u134::u135::u136::u137::u138::u139::u140::u141::u142::u143::u144::u145::u146::u147::u148::u149::u150::u151::u152::u153::u154::u155::u156::u157::u158::u159::u160::u161::u162::u163::[]).toArray, []⟩ W := by
  conv => arg 2; whnf
  have hti := ind_end (bl line)
  have hEs := endL_le (bl line)
  rw [bl_len] at hEs
  have HE := Lib.hid (fun W => end_any line W (by omega))
  have HI := Lib.hid (fun W => refIndent_any line 0 0 8 W hs)
  rw [inE_ind line hs] at HI
  have cm : W.cell? ⟨bs, 65, none⟩ = some (.int .u8 0) := by have := HD.mode; change _ = some (Value.int .u8 ((s.mode : Nat) : Int)) at this; rw [hm] at this; exact this
  have HDD := Lib.hid HD
  have HQ := Lib.hid hQ
  have HOK := Lib.hid hok
  have HSZ := Lib.hid hs
  have HM := Lib.hid hm
  have hsp := scanP_empty (s := s) hm (.inl he)
  rw [if_pos he] at hsp
  have HSP := Lib.hid hsp
  generalize (indL (bl line) 0).2 = co at HI
  rw [he] at HI
  generalize endL (bl line) = E at HE HI
  have hld := dc_state HD hok
  obtain ⟨hst2, hfin⟩ := dfin (HD.more (Up.drew W)) hok
  have HFIN := Lib.hid hfin
  clear HD hQ hok hs hm he hsp hti hEs hfin
  go_upto_region 10 with (first
    | (go_at_call 16; ((with_reducible refine (HE.out _).mono ?_); rintro e wE ⟨rfl, rfl⟩))
    | (go_at_call 17; ((with_reducible refine (HI.out _).mono ?_); rintro e wI ⟨rfl, rfl⟩)))
  go_region
  all_goals
    go_wp2
    have hq := HQ.out
    rw [HSP.out] at hq
    exact hq _ _ _ rfl rfl rfl HFIN.out.ld HFIN.out.row HFIN.out.up
end Go.Proofs.YtmfcapbllbfjnaaGreatDoor

namespace Go.Proofs.YtmfcapbllbfjnaaGreatDoor
open Go.RowKit
variable {u0 u1 u2 u3 u4 u5 u6 u7 u8 u9 u10 u11 u12 u13 u14 u15 u16 u17 u18 u19 u20 u21 u22 u23 u24 u25 u26 u27 u28 u29 u30 u31 u32 u33 u34 u35 u36 u37 u38 u39 u40 u41 u42 u43 u44 u45 u46 u47 u48 u49 u50 u51 u52 u53 u54 u55 u56 u57 u58 u59 u60 u61 u62 u63 u64 u65 u66 u67 u68 u69 u70 u71 u72 u73 u74 u75 u76 u77 u78 u79 u80 u81 u82 u83 u84 u85 u86 u87 u88 u89 u90 u91 u92 u93 u94 u95 u96 u97 u98 u99 u100 u101 u102 u103 u104 u105 u106 u107 u108 u109 u110 u111 u112 u113 u114 u115 u116 u117 u118 u119 u120 u121 u122 u123 u124 u125 u126 u127 u128 u129 u130 u131 u132 u133 u134 u135 u136 u137 u138 u139 u140 u141 u142 u143 u144 u145 u146 u147 u148 u149 u150 u151 u152 u153 u154 u155 u156 u157 u158 u159 u160 u161 u162 u163 : Value}
attribute [local go_sem ↓] ldS_eq stS_eq elS_eq neS_eq zrS_eq bdS_eq
attribute [local go_sem] ldS_run stS_run elS_run neS_run zrS_run bdS_run0 bdS_run1 g0_rule ldV_drew ldV_drewN

theorem dc_one {w0 W : World} {B r b : Nat} {V : SV} {v : Value} {es : List LEv} (h : DcP w0 W B r b V v es) (o k a c : Nat) : DcP w0 (W.alloc (.cells #[.int .u8 (o : Nat), .int .u8 (k : Nat), .int .i64 (a : Nat), .int .i64 (c : Nat)] ET)) B r b V (.slice (some ⟨W.heap.size, 0, none⟩) 1 1) [⟨o, k, a, c⟩] := by
  have h2 := h.more (Up.alloc W (.cells #[.int .u8 (o : Nat), .int .u8 (k : Nat), .int .i64 (a : Nat), .int .i64 (c : Nat)] ET))
  exact ⟨h2.box, own_one h.top _ _ _ _, h2.lo, h2.up, h2.base, h2.res, h2.lr, h2.ne, h2.lt, h2.top⟩
set_option maxRecDepth 1000000 in
set_option maxHeartbeats 16000000 in
theorem lay12_comment (w0 W : World) (B r bs : Nat) (s : LSt) (line : ByteArray) (hs : (line.size : Int) ≤ 65536) (hok : LOk s) (hm : s.mode = 0) (he : (indL (bl line) 0).1 ≠ endL (bl line)) (h35 : bt line (indL (bl line) 0).1 = 35) (HD : DcP w0 W B r bs (svP s) (.slice none 0 0) []) (Q : Exit → Act → World → Prop) (hQ : Fin12 w0 r (scanP s (bl line)).1 (scanP s (bl line)).2 Q) :
    Code.wp Tryz.prog dBody Q ⟨(u0::(Value.string line)::u2::u3::u4::(Value.pointer (some ⟨r, 0, none⟩))::(Value.pointer (some ⟨bs, 0, none⟩))::(Value.slice none 0 0)::u8::u9::u10::u11::u12::u13::u14::u15::u16::u17::u18::u19::u20::u21::u22::u23::u24::u25::u26::u27::u28::u29::u30::u31::u32::u33::u34::u35::u36::u37::u38::u39::u40::u41::u42::u43::u44::u45::u46::u47::u48::u49::u50::u51::u52::u53::u54::u55::u56::u57::u58::u59::u60::u61::u62::u63::u64::u65::u66::u67::u68::u69::u70::u71::u72::u73::u74::u75::u76::u77::u78::u79::u80::u81::u82::u83::u84::u85::u86::u87::u88::u89::u90::u91::u92::u93::u94::u95::u96::u97::u98::u99::u100::u101::u102::u103::u104::u105::u106::u107::u108::u109::u110::u111::u112::u113::u114::u115::u116::u117::u118::u119::u120::u121::u122::u123::u124::u125::u126::u127::u128::u129::u130::u131::u132::u133::u134::u135::u136::u137::u138::u139::u140::u141::u142::u143::u144::u145::u146::u147::u148::u149::u150::u151::u152::u153::u154::u155::u156::u157::u158::u159::u160::u161::u162::u163::[]).toArray, []⟩ W := by
  conv => arg 2; whnf
  have hti := ind_end (bl line)
  have hEs := endL_le (bl line)
  rw [bl_len] at hEs
  have HE := Lib.hid (fun W => end_any line W (by omega))
  have HI := Lib.hid (fun W => refIndent_any line 0 0 8 W hs)
  rw [inE_ind line hs] at HI
  have cm : W.cell? ⟨bs, 65, none⟩ = some (.int .u8 0) := by have := HD.mode; change _ = some (Value.int .u8 ((s.mode : Nat) : Int)) at this; rw [hm] at this; exact this
  have HDD := Lib.hid HD
  have HQ := Lib.hid hQ
  have HOK := Lib.hid hok
  have HSZ := Lib.hid hs
  have HM := Lib.hid hm
  have hsp := scanP_empty (s := s) hm (.inr h35)
  rw [if_neg he] at hsp
  have HSP := Lib.hid hsp
  clear hsp
  have hlt : (indL (bl line) 0).1 < line.size := by omega
  have hge : ¬ ((endL (bl line) : Nat) : Int) ≤ (((indL (bl line) 0).1 : Nat) : Int) := by omega
  have hged : decide (((endL (bl line) : Nat) : Int) ≤ (((indL (bl line) 0).1 : Nat) : Int)) = false := decide_eq_false hge
  have hgen : ¬ endL (bl line) ≤ (indL (bl line) 0).1 := by omega
  generalize hTI : (indL (bl line) 0).1 = ti at *
  generalize hCO : (indL (bl line) 0).2 = co at *
  generalize hEE : endL (bl line) = E at *
  have i0 : (0 : Int) ≤ (ti : Int) := by omega
  have i1 : (ti : Int) < line.size := by omega
  obtain ⟨x, hx⟩ : ∃ x, line[ti].toNat = x := ⟨_, rfl⟩
  have hbx : bt line ti = x := by rw [← bt_eq hlt]; exact hx
  rw [h35] at hbx
  subst hbx
  have hld := dc_state HD hok
  have hld1 := dc_state (HD.more (Up.alloc W (.cells #[.int .u8 3, .int .u8 18, .int .i64 (ti : Nat), .int .i64 (E : Nat)] ET))) hok
  have hld2 := dc_state (HD.more ((Up.drew W).trans (Up.alloc W.drew (.cells #[.int .u8 3, .int .u8 18, .int .i64 (ti : Nat), .int .i64 (E : Nat)] ET)))) hok
  have h1 := dc_one HD 3 18 ti E
  have h2 := dc_one (HD.more (Up.drew W)) 3 18 ti E
  rw [show ((3 : Nat) : Int) = 3 from rfl, show ((18 : Nat) : Int) = 18 from rfl] at h1 h2
  rw [show W.drew.heap.size = W.heap.size from rfl] at h2
  obtain ⟨s1, f1⟩ := dfin h1 hok
  obtain ⟨s2, f2⟩ := dfin h2 hok
  obtain ⟨s3, f3⟩ := dfin (h1.more (Up.drew _)) hok
  have F1 := Lib.hid f1
  have F2 := Lib.hid f2
  have F3 := Lib.hid f3
  clear HD hQ hok hs hm he hti hEs h1 h2 f1 f2 f3 hTI hCO hEE
  go_upto_region 12 with (first
    | (go_at_call 16; ((with_reducible refine (HE.out _).mono ?_); rintro e wE ⟨rfl, rfl⟩))
    | (go_at_call 17; ((with_reducible refine (HI.out _).mono ?_); rintro e wI ⟨rfl, rfl⟩)))
  go_region
  all_goals
    go_wp2
    have hq := HQ.out
    rw [HSP.out] at hq
    change Fin12 w0 r [⟨3, 18, ti, E⟩] s Q at hq
    refine hq _ _ (Value.slice (some ⟨W.heap.size, 0, none⟩) 1 1) rfl rfl rfl ?_ ?_ ?_
    · first | with_reducible exact F1.out.ld | with_reducible exact F2.out.ld | with_reducible exact F3.out.ld
    · first | with_reducible exact F1.out.row | with_reducible exact F2.out.row | with_reducible exact F3.out.row
    · first | with_reducible exact F1.out.up | with_reducible exact F2.out.up | with_reducible exact F3.out.up
end Go.Proofs.YtmfcapbllbfjnaaGreatDoor

namespace Go.Proofs.YtmfcapbllbfjnaaGreatDoor
open Go.RowKit
variable {u0 u1 u2 u3 u4 u5 u6 u7 u8 u9 u10 u11 u12 u13 u14 u15 u16 u17 u18 u19 u20 u21 u22 u23 u24 u25 u26 u27 u28 u29 u30 u31 u32 u33 u34 u35 u36 u37 u38 u39 u40 u41 u42 u43 u44 u45 u46 u47 u48 u49 u50 u51 u52 u53 u54 u55 u56 u57 u58 u59 u60 u61 u62 u63 u64 u65 u66 u67 u68 u69 u70 u71 u72 u73 u74 u75 u76 u77 u78 u79 u80 u81 u82 u83 u84 u85 u86 u87 u88 u89 u90 u91 u92 u93 u94 u95 u96 u97 u98 u99 u100 u101 u102 u103 u104 u105 u106 u107 u108 u109 u110 u111 u112 u113 u114 u115 u116 u117 u118 u119 u120 u121 u122 u123 u124 u125 u126 u127 u128 u129 u130 u131 u132 u133 u134 u135 u136 u137 u138 u139 u140 u141 u142 u143 u144 u145 u146 u147 u148 u149 u150 u151 u152 u153 u154 u155 u156 u157 u158 u159 u160 u161 u162 u163 : Value}
attribute [local go_sem ↓] ldS_eq stS_eq elS_eq neS_eq zrS_eq bdS_eq
attribute [local go_sem] ldS_run stS_run elS_run neS_run zrS_run bdS_run0 bdS_run1 g0_rule ldV_drew ldV_drewN

set_option maxRecDepth 1000000 in
set_option maxHeartbeats 16000000 in
theorem lay12_push (w0 W : World) (B r bs : Nat) (s : LSt) (line : ByteArray) (hs : (line.size : Int) ≤ 65536) (hok : LOk s) (hm : s.mode = 0) (he : (indL (bl line) 0).1 ≠ endL (bl line)) (h35 : bt line (indL (bl line) 0).1 ≠ 35) (hfl1 : s.flags ≤ 1) (hup : opnC s.cols < (indL (bl line) 0).2) (hf : s.flags = 1) (hn : s.cols.length < 16) (HD : DcP w0 W B r bs (svP s) (.slice none 0 0) []) (Q : Exit → Act → World → Prop) (hQ : Fin12 w0 r (scanP s (bl line)).1 (scanP s (bl line)).2 Q) :
    Code.wp Tryz.prog dBody Q ⟨(u0::(Value.string line)::u2::u3::u4::(Value.pointer (some ⟨r, 0, none⟩))::(Value.pointer (some ⟨bs, 0, none⟩))::(Value.slice none 0 0)::u8::u9::u10::u11::u12::u13::u14::u15::u16::u17::u18::u19::u20::u21::u22::u23::u24::u25::u26::u27::u28::u29::u30::u31::u32::u33::u34::u35::u36::u37::u38::u39::u40::u41::u42::u43::u44::u45::u46::u47::u48::u49::u50::u51::u52::u53::u54::u55::u56::u57::u58::u59::u60::u61::u62::u63::u64::u65::u66::u67::u68::u69::u70::u71::u72::u73::u74::u75::u76::u77::u78::u79::u80::u81::u82::u83::u84::u85::u86::u87::u88::u89::u90::u91::u92::u93::u94::u95::u96::u97::u98::u99::u100::u101::u102::u103::u104::u105::u106::u107::u108::u109::u110::u111::u112::u113::u114::u115::u116::u117::u118::u119::u120::u121::u122::u123::u124::u125::u126::u127::u128::u129::u130::u131::u132::u133::u134::u135::u136::u137::u138::u139::u140::u141::u142::u143::u144::u145::u146::u147::u148::u149::u150::u151::u152::u153::u154::u155::u156::u157::u158::u159::u160::u161::u162::u163::[]).toArray, []⟩ W := by
  conv => arg 2; whnf
  have hti := ind_end (bl line)
  have hEs := endL_le (bl line)
  rw [bl_len] at hEs
  have HE := Lib.hid (fun W => end_any line W (by omega))
  have HI := Lib.hid (fun W => refIndent_any line 0 0 8 W hs)
  rw [inE_ind line hs] at HI
  have cm : W.cell? ⟨bs, 65, none⟩ = some (.int .u8 0) := by have := HD.mode; change _ = some (Value.int .u8 ((s.mode : Nat) : Int)) at this; rw [hm] at this; exact this
  have HDD := Lib.hid HD
  have HQ := Lib.hid hQ
  have HOK := Lib.hid hok
  have HSZ := Lib.hid hs
  have HM := Lib.hid hm
  have hsp := scan_lay (s := s) hm hfl1 (fun k => k.elim he h35) (show layL s.cols s.flags (indL (bl line) 0).1 (indL (bl line) 0).2 = ([evO 10 0], s.cols ++ [(indL (bl line) 0).2]) from by unfold layL; rw [if_pos hup, if_pos ⟨hf, hn⟩])
  have hok3 := scanP_ok hok (l := bl line) (by rw [bl_len]; omega)
  rw [hsp] at hok3
  have HSP := Lib.hid hsp
  have HOK3 := Lib.hid hok3
  clear hsp hok3
  have hlt : (indL (bl line) 0).1 < line.size := by omega
  have hge : ¬ ((endL (bl line) : Nat) : Int) ≤ (((indL (bl line) 0).1 : Nat) : Int) := by omega
  have hged : decide (((endL (bl line) : Nat) : Int) ≤ (((indL (bl line) 0).1 : Nat) : Int)) = false := decide_eq_false hge
  have hgen : ¬ endL (bl line) ≤ (indL (bl line) 0).1 := by omega
  generalize hTI : (indL (bl line) 0).1 = ti at *
  generalize hCO : (indL (bl line) 0).2 = co at *
  generalize hEE : endL (bl line) = E at *
  have i0 : (0 : Int) ≤ (ti : Int) := by omega
  have i1 : (ti : Int) < line.size := by omega
  obtain ⟨x, hx⟩ : ∃ x, line[ti].toNat = x := ⟨_, rfl⟩
  have hbx : bt line ti = x := by rw [← bt_eq hlt]; exact hx
  have hx0 : ((x : Int) == 35) = false := beq_eq_false_iff_ne.2 (by omega)
  have hx1 : ¬ (x : Int) = 35 := by omega
  have hlen := hok.len
  have cf : W.cell? ⟨bs, 67, none⟩ = some (.int .u8 (s.flags : Nat)) := HD.flags
  have hld := dc_state HD hok
  have HOP := Lib.hid (fun W' => refOpen_any W' s hlen)
  rw [hf, show ((1 : Nat) : Int) = 1 from rfl] at cf
  obtain ⟨n, hnn⟩ : ∃ n, s.cols.length = n := ⟨_, rfl⟩
  rw [hnn] at hn
  have HN := Lib.hid hnn
  have HN16 := Lib.hid hn
  have hgt : ((opnC s.cols : Nat) : Int) < (co : Int) := by omega
  generalize opnC s.cols = oc at HOP hgt hup
  have g16 : ((n : Int) == 16) = false := beq_eq_false_iff_ne.2 (by omega)
  have g16' : ¬ (n : Int) = 16 := by omega
  have HCD := Lib.hid (fun (w1 : World) (h : DcP w0 w1 B r bs (svP s) (.slice none 0 0) []) => (show w1.cell? ⟨bs, 64, none⟩ = some (.int .i64 (n : Nat)) from by have := h.depth; rw [← hnn]; exact this))
  have HCF := Lib.hid (fun (w1 : World) (h : DcP w0 w1 B r bs (svP s) (.slice none 0 0) []) => (show w1.cell? ⟨bs, 67, none⟩ = some (.int .u8 1) from by have := h.flags; change _ = some (Value.int .u8 ((s.flags : Nat) : Int)) at this; rw [hf] at this; exact this))
  have HLEN := Lib.hid hlen
  clear HD hQ hok hs hm he hti hEs hTI hCO hEE h35 hbx hlen hfl1 hf hn hnn hup
  go_upto_region 17 with (first
    | (go_at_call 16; ((with_reducible refine (HE.out _).mono ?_); rintro e wE ⟨rfl, rfl⟩))
    | (go_at_call 17; ((with_reducible refine (HI.out _).mono ?_); rintro e wI ⟨rfl, rfl⟩))
    | (go_at_call 18; ((with_reducible refine (HOP.out _).mono ?_); rintro e w1 ⟨rfl, hu⟩; have HD1 := Lib.hid (HDD.out.more hu); have cd1 := HCD.out _ HD1.out; have cf1 := HCF.out _ HD1.out; clear hu)))
  refine piece12_17 w0 w1 B r bs _ _ [] (by simp) HD1.out _ _  ?_
  intro va _ _ _ _ wa HDa
  go_upto_region 18 with fail
  refine piece12_18 w0 wa B r bs n co (svP s) va _ HN16.out (by rw [← HN.out]; rfl) HDa _ _  ?_
  intro _ _ _ _ _ _ wb HDb
  go_upto_region 19 with fail
  refine piece12_19 w0 wb B r bs n _ va _ HN16.out (by rw [← HN.out]; rfl) HDb _ _  ?_
  intro _ _ _ _ wc HDc
  have HDx := HDc.congr (push_svL HN.out)
  go_upto_region 27 with fail
  refine piece12_27 w0 _ B r bs _ _ [⟨1, 10, 0, 0⟩] ti (by simp <;> omega) HDx _ _  ?_
  intro v3 _ _ _ _ _ wz HDz
  go_upto_region 29 with fail
  refine piece12_29 w0 _ B r bs _ _ _ HDz _ _  ?_
  intro _ wq HDq
  have HDs := HDq.congr (V' := svP (st3 s (s.cols ++ [co]))) (by rfl)
  go_upto_region 30 with fail
  refine piece12_30 w0 wq B r bs ti (st3 s (s.cols ++ [co])) line _ _ HSZ.out HDs _ _  ?_
  intro bo vo _ _ _ _ _ _ _ wt ho hrow hu
  apply_assumption
  have hq := HQ.out
  rw [HSP.out] at hq
  exact tail30_any w0 wt B r bs bo wq.heap.size E (st3 s (s.cols ++ [co])) _ vo _ _ _ (by simp <;> omega) (lenE2 HSZ.out _ _ _) (scanE_ok _ _ _ _).d0 (HDs.more hu) ho hrow HOK3.out Q (by simpa [evO, evL, evC] using hq) 
end Go.Proofs.YtmfcapbllbfjnaaGreatDoor

namespace Go.Proofs.YtmfcapbllbfjnaaGreatDoor
open Go.RowKit
variable {u0 u1 u2 u3 u4 u5 u6 u7 u8 u9 u10 u11 u12 u13 u14 u15 u16 u17 u18 u19 u20 u21 u22 u23 u24 u25 u26 u27 u28 u29 u30 u31 u32 u33 u34 u35 u36 u37 u38 u39 u40 u41 u42 u43 u44 u45 u46 u47 u48 u49 u50 u51 u52 u53 u54 u55 u56 u57 u58 u59 u60 u61 u62 u63 u64 u65 u66 u67 u68 u69 u70 u71 u72 u73 u74 u75 u76 u77 u78 u79 u80 u81 u82 u83 u84 u85 u86 u87 u88 u89 u90 u91 u92 u93 u94 u95 u96 u97 u98 u99 u100 u101 u102 u103 u104 u105 u106 u107 u108 u109 u110 u111 u112 u113 u114 u115 u116 u117 u118 u119 u120 u121 u122 u123 u124 u125 u126 u127 u128 u129 u130 u131 u132 u133 u134 u135 u136 u137 u138 u139 u140 u141 u142 u143 u144 u145 u146 u147 u148 u149 u150 u151 u152 u153 u154 u155 u156 u157 u158 u159 u160 u161 u162 u163 : Value}
attribute [local go_sem ↓] ldS_eq stS_eq elS_eq neS_eq zrS_eq bdS_eq
attribute [local go_sem] ldS_run stS_run elS_run neS_run zrS_run bdS_run0 bdS_run1 g0_rule ldV_drew ldV_drewN

set_option maxRecDepth 1000000 in
set_option maxHeartbeats 16000000 in
theorem lay12_err0 (w0 W : World) (B r bs : Nat) (s : LSt) (line : ByteArray) (hs : (line.size : Int) ≤ 65536) (hok : LOk s) (hm : s.mode = 0) (he : (indL (bl line) 0).1 ≠ endL (bl line)) (h35 : bt line (indL (bl line) 0).1 ≠ 35) (hfl1 : s.flags ≤ 1) (hup : opnC s.cols < (indL (bl line) 0).2) (hf : s.flags = 0) (HD : DcP w0 W B r bs (svP s) (.slice none 0 0) []) (Q : Exit → Act → World → Prop) (hQ : Fin12 w0 r (scanP s (bl line)).1 (scanP s (bl line)).2 Q) :
    Code.wp Tryz.prog dBody Q ⟨(u0::(Value.string line)::u2::u3::u4::(Value.pointer (some ⟨r, 0, none⟩))::(Value.pointer (some ⟨bs, 0, none⟩))::(Value.slice none 0 0)::u8::u9::u10::u11::u12::u13::u14::u15::u16::u17::u18::u19::u20::u21::u22::u23::u24::u25::u26::u27::u28::u29::u30::u31::u32::u33::u34::u35::u36::u37::u38::u39::u40::u41::u42::u43::u44::u45::u46::u47::u48::u49::u50::u51::u52::u53::u54::u55::u56::u57::u58::u59::u60::u61::u62::u63::u64::u65::u66::u67::u68::u69::u70::u71::u72::u73::u74::u75::u76::u77::u78::u79::u80::u81::u82::u83::u84::u85::u86::u87::u88::u89::u90::u91::u92::u93::u94::u95::u96::u97::u98::u99::u100::u101::u102::u103::u104::u105::u106::u107::u108::u109::u110::u111::u112::u113::u114::u115::u116::u117::u118::u119::u120::u121::u122::u123::u124::u125::u126::u127::u128::u129::u130::u131::u132::u133::u134::u135::u136::u137::u138::u139::u140::u141::u142::u143::u144::u145::u146::u147::u148::u149::u150::u151::u152::u153::u154::u155::u156::u157::u158::u159::u160::u161::u162::u163::[]).toArray, []⟩ W := by
  conv => arg 2; whnf
  have hti := ind_end (bl line)
  have hEs := endL_le (bl line)
  rw [bl_len] at hEs
  have HE := Lib.hid (fun W => end_any line W (by omega))
  have HI := Lib.hid (fun W => refIndent_any line 0 0 8 W hs)
  rw [inE_ind line hs] at HI
  have cm : W.cell? ⟨bs, 65, none⟩ = some (.int .u8 0) := by have := HD.mode; change _ = some (Value.int .u8 ((s.mode : Nat) : Int)) at this; rw [hm] at this; exact this
  have HDD := Lib.hid HD
  have HQ := Lib.hid hQ
  have HOK := Lib.hid hok
  have HSZ := Lib.hid hs
  have HM := Lib.hid hm
  have hsp := scan_lay (s := s) hm hfl1 (fun k => k.elim he h35) (show layL s.cols s.flags (indL (bl line) 0).1 (indL (bl line) 0).2 = ([⟨3, 2, 0, (indL (bl line) 0).1⟩], s.cols) from by unfold layL; rw [if_pos hup, if_neg (by rintro ⟨a, b⟩; omega)]; rfl)
  have hok3 := scanP_ok hok (l := bl line) (by rw [bl_len]; omega)
  rw [hsp] at hok3
  have HSP := Lib.hid hsp
  have HOK3 := Lib.hid hok3
  clear hsp hok3
  have hlt : (indL (bl line) 0).1 < line.size := by omega
  have hge : ¬ ((endL (bl line) : Nat) : Int) ≤ (((indL (bl line) 0).1 : Nat) : Int) := by omega
  have hged : decide (((endL (bl line) : Nat) : Int) ≤ (((indL (bl line) 0).1 : Nat) : Int)) = false := decide_eq_false hge
  have hgen : ¬ endL (bl line) ≤ (indL (bl line) 0).1 := by omega
  generalize hTI : (indL (bl line) 0).1 = ti at *
  generalize hCO : (indL (bl line) 0).2 = co at *
  generalize hEE : endL (bl line) = E at *
  have i0 : (0 : Int) ≤ (ti : Int) := by omega
  have i1 : (ti : Int) < line.size := by omega
  obtain ⟨x, hx⟩ : ∃ x, line[ti].toNat = x := ⟨_, rfl⟩
  have hbx : bt line ti = x := by rw [← bt_eq hlt]; exact hx
  have hx0 : ((x : Int) == 35) = false := beq_eq_false_iff_ne.2 (by omega)
  have hx1 : ¬ (x : Int) = 35 := by omega
  have hlen := hok.len
  have cf : W.cell? ⟨bs, 67, none⟩ = some (.int .u8 (s.flags : Nat)) := HD.flags
  have hld := dc_state HD hok
  have HOP := Lib.hid (fun W' => refOpen_any W' s hlen)
  rw [hf, show ((0 : Nat) : Int) = 0 from rfl] at cf
  obtain ⟨n, hnn⟩ : ∃ n, s.cols.length = n := ⟨_, rfl⟩
  have HN := Lib.hid hnn
  have hgt : ((opnC s.cols : Nat) : Int) < (co : Int) := by omega
  generalize opnC s.cols = oc at HOP hgt hup
  have HCD := Lib.hid (fun (w1 : World) (h : DcP w0 w1 B r bs (svP s) (.slice none 0 0) []) => (show w1.cell? ⟨bs, 64, none⟩ = some (.int .i64 (n : Nat)) from by have := h.depth; rw [← hnn]; exact this))
  have HCF := Lib.hid (fun (w1 : World) (h : DcP w0 w1 B r bs (svP s) (.slice none 0 0) []) => (show w1.cell? ⟨bs, 67, none⟩ = some (.int .u8 0) from by have := h.flags; change _ = some (Value.int .u8 ((s.flags : Nat) : Int)) at this; rw [hf] at this; exact this))
  have HLEN := Lib.hid hlen
  clear HD hQ hok hs hm he hti hEs hTI hCO hEE h35 hbx hlen hfl1 hf hnn hup
  go_upto_region 26 with (first
    | (go_at_call 16; ((with_reducible refine (HE.out _).mono ?_); rintro e wE ⟨rfl, rfl⟩))
    | (go_at_call 17; ((with_reducible refine (HI.out _).mono ?_); rintro e wI ⟨rfl, rfl⟩))
    | (go_at_call 18; ((with_reducible refine (HOP.out _).mono ?_); rintro e w1 ⟨rfl, hu⟩; have HD1 := Lib.hid (HDD.out.more hu); have cd1 := HCD.out _ HD1.out; have cf1 := HCF.out _ HD1.out; clear hu)))
  refine piece12_26 w0 _ B r bs _ _ [] ti (by simp <;> omega) HD1.out _ _  ?_
  intro v2 _ _ _ _ _ wy HDy
  go_upto_region 27 with fail
  refine piece12_27 w0 _ B r bs _ _ ([] ++ [⟨3, 2, 0, ti⟩]) ti (by simp <;> omega) HDy _ _  ?_
  intro v3 _ _ _ _ _ wz HDz
  go_upto_region 29 with fail
  refine piece12_29 w0 _ B r bs _ _ _ HDz _ _  ?_
  intro _ wq HDq
  have HDs := HDq.congr (V' := svP (st3 s s.cols)) (by rfl)
  go_upto_region 30 with fail
  refine piece12_30 w0 wq B r bs ti (st3 s s.cols) line _ _ HSZ.out HDs _ _  ?_
  intro bo vo _ _ _ _ _ _ _ wt ho hrow hu
  apply_assumption
  have hq := HQ.out
  rw [HSP.out] at hq
  exact tail30_any w0 wt B r bs bo wq.heap.size E (st3 s s.cols) _ vo _ _ _ (by simp <;> omega) (lenE2 HSZ.out _ _ _) (scanE_ok _ _ _ _).d0 (HDs.more hu) ho hrow HOK3.out Q (by simpa [evO, evL, evC] using hq) 
set_option maxRecDepth 1000000 in
set_option maxHeartbeats 16000000 in
theorem lay12_err16 (w0 W : World) (B r bs : Nat) (s : LSt) (line : ByteArray) (hs : (line.size : Int) ≤ 65536) (hok : LOk s) (hm : s.mode = 0) (he : (indL (bl line) 0).1 ≠ endL (bl line)) (h35 : bt line (indL (bl line) 0).1 ≠ 35) (hfl1 : s.flags ≤ 1) (hup : opnC s.cols < (indL (bl line) 0).2) (hf : s.flags = 1) (hn : s.cols.length = 16) (HD : DcP w0 W B r bs (svP s) (.slice none 0 0) []) (Q : Exit → Act → World → Prop) (hQ : Fin12 w0 r (scanP s (bl line)).1 (scanP s (bl line)).2 Q) :
    Code.wp Tryz.prog dBody Q ⟨(u0::(Value.string line)::u2::u3::u4::(Value.pointer (some ⟨r, 0, none⟩))::(Value.pointer (some ⟨bs, 0, none⟩))::(Value.slice none 0 0)::u8::u9::u10::u11::u12::u13::u14::u15::u16::u17::u18::u19::u20::u21::u22::u23::u24::u25::u26::u27::u28::u29::u30::u31::u32::u33::u34::u35::u36::u37::u38::u39::u40::u41::u42::u43::u44::u45::u46::u47::u48::u49::u50::u51::u52::u53::u54::u55::u56::u57::u58::u59::u60::u61::u62::u63::u64::u65::u66::u67::u68::u69::u70::u71::u72::u73::u74::u75::u76::u77::u78::u79::u80::u81::u82::u83::u84::u85::u86::u87::u88::u89::u90::u91::u92::u93::u94::u95::u96::u97::u98::u99::u100::u101::u102::u103::u104::u105::u106::u107::u108::u109::u110::u111::u112::u113::u114::u115::u116::u117::u118::u119::u120::u121::u122::u123::u124::u125::u126::u127::u128::u129::u130::u131::u132::u133::u134::u135::u136::u137::u138::u139::u140::u141::u142::u143::u144::u145::u146::u147::u148::u149::u150::u151::u152::u153::u154::u155::u156::u157::u158::u159::u160::u161::u162::u163::[]).toArray, []⟩ W := by
  conv => arg 2; whnf
  have hti := ind_end (bl line)
  have hEs := endL_le (bl line)
  rw [bl_len] at hEs
  have HE := Lib.hid (fun W => end_any line W (by omega))
  have HI := Lib.hid (fun W => refIndent_any line 0 0 8 W hs)
  rw [inE_ind line hs] at HI
  have cm : W.cell? ⟨bs, 65, none⟩ = some (.int .u8 0) := by have := HD.mode; change _ = some (Value.int .u8 ((s.mode : Nat) : Int)) at this; rw [hm] at this; exact this
  have HDD := Lib.hid HD
  have HQ := Lib.hid hQ
  have HOK := Lib.hid hok
  have HSZ := Lib.hid hs
  have HM := Lib.hid hm
  have hsp := scan_lay (s := s) hm hfl1 (fun k => k.elim he h35) (show layL s.cols s.flags (indL (bl line) 0).1 (indL (bl line) 0).2 = ([⟨3, 2, 0, (indL (bl line) 0).1⟩], s.cols) from by unfold layL; rw [if_pos hup, if_neg (by rintro ⟨a, b⟩; omega)]; rfl)
  have hok3 := scanP_ok hok (l := bl line) (by rw [bl_len]; omega)
  rw [hsp] at hok3
  have HSP := Lib.hid hsp
  have HOK3 := Lib.hid hok3
  clear hsp hok3
  have hlt : (indL (bl line) 0).1 < line.size := by omega
  have hge : ¬ ((endL (bl line) : Nat) : Int) ≤ (((indL (bl line) 0).1 : Nat) : Int) := by omega
  have hged : decide (((endL (bl line) : Nat) : Int) ≤ (((indL (bl line) 0).1 : Nat) : Int)) = false := decide_eq_false hge
  have hgen : ¬ endL (bl line) ≤ (indL (bl line) 0).1 := by omega
  generalize hTI : (indL (bl line) 0).1 = ti at *
  generalize hCO : (indL (bl line) 0).2 = co at *
  generalize hEE : endL (bl line) = E at *
  have i0 : (0 : Int) ≤ (ti : Int) := by omega
  have i1 : (ti : Int) < line.size := by omega
  obtain ⟨x, hx⟩ : ∃ x, line[ti].toNat = x := ⟨_, rfl⟩
  have hbx : bt line ti = x := by rw [← bt_eq hlt]; exact hx
  have hx0 : ((x : Int) == 35) = false := beq_eq_false_iff_ne.2 (by omega)
  have hx1 : ¬ (x : Int) = 35 := by omega
  have hlen := hok.len
  have cf : W.cell? ⟨bs, 67, none⟩ = some (.int .u8 (s.flags : Nat)) := HD.flags
  have hld := dc_state HD hok
  have HOP := Lib.hid (fun W' => refOpen_any W' s hlen)
  rw [hf, show ((1 : Nat) : Int) = 1 from rfl] at cf
  obtain ⟨n, hnn⟩ : ∃ n, s.cols.length = n := ⟨_, rfl⟩
  have HN := Lib.hid hnn
  have hgt : ((opnC s.cols : Nat) : Int) < (co : Int) := by omega
  generalize opnC s.cols = oc at HOP hgt hup
  have HCD := Lib.hid (fun (w1 : World) (h : DcP w0 w1 B r bs (svP s) (.slice none 0 0) []) => (show w1.cell? ⟨bs, 64, none⟩ = some (.int .i64 (n : Nat)) from by have := h.depth; rw [← hnn]; exact this))
  have HCF := Lib.hid (fun (w1 : World) (h : DcP w0 w1 B r bs (svP s) (.slice none 0 0) []) => (show w1.cell? ⟨bs, 67, none⟩ = some (.int .u8 1) from by have := h.flags; change _ = some (Value.int .u8 ((s.flags : Nat) : Int)) at this; rw [hf] at this; exact this))
  obtain rfl : n = 16 := by omega
  rw [show ((16 : Nat) : Int) = 16 from rfl] at HCD
  have HLEN := Lib.hid hlen
  clear HD hQ hok hs hm he hti hEs hTI hCO hEE h35 hbx hlen hfl1 hf hnn hn hup
  go_upto_region 26 with (first
    | (go_at_call 16; ((with_reducible refine (HE.out _).mono ?_); rintro e wE ⟨rfl, rfl⟩))
    | (go_at_call 17; ((with_reducible refine (HI.out _).mono ?_); rintro e wI ⟨rfl, rfl⟩))
    | (go_at_call 18; ((with_reducible refine (HOP.out _).mono ?_); rintro e w1 ⟨rfl, hu⟩; have HD1 := Lib.hid (HDD.out.more hu); have cd1 := HCD.out _ HD1.out; have cf1 := HCF.out _ HD1.out; clear hu)))
  refine piece12_26 w0 _ B r bs _ _ [] ti (by simp <;> omega) HD1.out _ _  ?_
  intro v2 _ _ _ _ _ wy HDy
  go_upto_region 27 with fail
  refine piece12_27 w0 _ B r bs _ _ ([] ++ [⟨3, 2, 0, ti⟩]) ti (by simp <;> omega) HDy _ _  ?_
  intro v3 _ _ _ _ _ wz HDz
  go_upto_region 29 with fail
  refine piece12_29 w0 _ B r bs _ _ _ HDz _ _  ?_
  intro _ wq HDq
  have HDs := HDq.congr (V' := svP (st3 s s.cols)) (by rfl)
  go_upto_region 30 with fail
  refine piece12_30 w0 wq B r bs ti (st3 s s.cols) line _ _ HSZ.out HDs _ _  ?_
  intro bo vo _ _ _ _ _ _ _ wt ho hrow hu
  apply_assumption
  have hq := HQ.out
  rw [HSP.out] at hq
  exact tail30_any w0 wt B r bs bo wq.heap.size E (st3 s s.cols) _ vo _ _ _ (by simp <;> omega) (lenE2 HSZ.out _ _ _) (scanE_ok _ _ _ _).d0 (HDs.more hu) ho hrow HOK3.out Q (by simpa [evO, evL, evC] using hq) 
end Go.Proofs.YtmfcapbllbfjnaaGreatDoor

namespace Go.Proofs.YtmfcapbllbfjnaaGreatDoor
open Go.RowKit
variable {z0 z1 z2 z3 z4 z5 z6 z7 z8 z9 z10 z11 z12 z13 z14 z15 z16 z17 z18 z19 z20 z21 z22 z23 z24 z25 z26 z27 z28 z29 z30 z31 z32 z33 z34 z35 z36 z37 z38 z39 z40 z41 z42 z43 z44 z45 z46 z47 z48 z49 z50 z51 z52 z53 z54 z55 z56 z57 z58 z59 z60 z61 z62 z63 z64 z65 z66 z67 z68 z69 z70 z71 z72 z73 z74 z75 z76 z77 z78 z79 z80 z81 z82 z83 z84 z85 z86 z87 z88 z89 z90 z91 z92 z93 z94 z95 z96 z97 z98 z99 z100 z101 z102 z103 z104 z105 z106 z107 z108 z109 z110 z111 z112 z113 z114 z115 z116 z117 z118 z119 z120 z121 z122 z123 z124 z125 z126 z127 z128 z129 z130 z131 z132 z133 z134 z135 z136 z137 z138 z139 z140 z141 z142 z143 z144 z145 z146 z147 z148 z149 z150 z151 z152 z153 z154 z155 z156 z157 z158 z159 z160 z161 z162 z163 : Value}
attribute [local go_sem ↓] ldS_eq stS_eq elS_eq neS_eq zrS_eq bdS_eq
attribute [local go_sem] ldS_run stS_run elS_run neS_run zrS_run bdS_run0 bdS_run1 g0_rule ldV_drew ldV_drewN

theorem withC_ok {s : LSt} (h : LOk s) (k : Nat) : LOk (withC s (s.cols.take k)) :=
  ⟨by show (s.cols.take k).length ≤ 16; rw [List.length_take]; have := h.len; omega, h.up.sublist (List.take_sublist k _), fun c hc => h.lo c (List.mem_of_mem_take hc), fun c hc => h.hi c (List.mem_of_mem_take hc), h.line⟩
theorem wp_then2 {P : Program} {s : Code} {Q : Exit → Act → World → Prop} {a : Act} {w : World} (h : s.wp P (Exit.then (Q .normal) Q) a w) : s.wp P Q a w := by
  refine wp_mono h ?_
  intro e a' w' hq
  cases e <;> exact hq
set_option maxRecDepth 1000000 in
set_option maxHeartbeats 16000000 in
theorem lay12_down1 (w0 W : World) (B r bs : Nat) (s : LSt) (line : ByteArray) (hs : (line.size : Int) ≤ 65536) (hok : LOk s) (hm : s.mode = 0) (he : (indL (bl line) 0).1 ≠ endL (bl line)) (h35 : bt line (indL (bl line) 0).1 ≠ 35) (hfl1 : s.flags ≤ 1) (hup : ¬ opnC s.cols < (indL (bl line) 0).2) (hf : s.flags = 1) (HD : DcP w0 W B r bs (svP s) (.slice none 0 0) []) (Q : Exit → Act → World → Prop) (hQ : Fin12 w0 r (scanP s (bl line)).1 (scanP s (bl line)).2 Q) :
    Code.wp Tryz.prog dBody Q ⟨(z0::(Value.string line)::z2::z3::z4::(Value.pointer (some ⟨r, 0, none⟩))::(Value.pointer (some ⟨bs, 0, none⟩))::(Value.slice none 0 0)::z8::z9::z10::z11::z12::z13::z14::z15::z16::z17::z18::z19::z20::z21::z22::z23::z24::z25::z26::z27::z28::z29::z30::z31::z32::z33::z34::z35::z36::z37::z38::z39::z40::z41::z42::z43::z44::z45::z46::z47::z48::z49::z50::z51::z52::z53::z54::z55::z56::z57::z58::z59::z60::z61::z62::z63::z64::z65::z66::z67::z68::z69::z70::z71::z72::z73::z74::z75::z76::z77::z78::z79::z80::z81::z82::z83::z84::z85::z86::z87::z88::z89::z90::z91::z92::z93::z94::z95::z96::z97::z98::z99::z100::z101::z102::z103::z104::z105::z106::z107::z108::z109::z110::z111::z112::z113::z114::z115::z116::z117::z118::z119::z120::z121::z122::z123::z124::z125::z126::z127::z128::z129::z130::z131::z132::z133::z134::z135::z136::z137::z138::z139::z140::z141::z142::z143::z144::z145::z146::z147::z148::z149::z150::z151::z152::z153::z154::z155::z156::z157::z158::z159::z160::z161::z162::z163::[]).toArray, []⟩ W := by
  conv => arg 2; whnf
  have hti := ind_end (bl line)
  have hEs := endL_le (bl line)
  rw [bl_len] at hEs
  have HE := Lib.hid (fun W => end_any line W (by omega))
  have HI := Lib.hid (fun W => refIndent_any line 0 0 8 W hs)
  rw [inE_ind line hs] at HI
  have cm : W.cell? ⟨bs, 65, none⟩ = some (.int .u8 0) := by have := HD.mode; change _ = some (Value.int .u8 ((s.mode : Nat) : Int)) at this; rw [hm] at this; exact this
  have HDD := Lib.hid HD
  have HQ := Lib.hid hQ
  have HOK := Lib.hid hok
  have HSZ := Lib.hid hs
  have HM := Lib.hid hm
  have hsp := scan_lay (s := s) hm hfl1 (fun k => k.elim he h35) (show layL s.cols s.flags (indL (bl line) 0).1 (indL (bl line) 0).2 = (List.replicate (s.cols.length - (keptC (indL (bl line) 0).2 s.cols).length) (evC 0 0) ++ [⟨3, 2, 0, (indL (bl line) 0).1⟩], keptC (indL (bl line) 0).2 s.cols) from by unfold layL; rw [if_neg hup, if_pos (Or.inl hf)]; rfl)
  have hok3 := scanP_ok hok (l := bl line) (by rw [bl_len]; omega)
  rw [hsp] at hok3
  have HSP := Lib.hid hsp
  have HOK3 := Lib.hid hok3
  clear hsp hok3
  have hlt : (indL (bl line) 0).1 < line.size := by omega
  have hge : ¬ ((endL (bl line) : Nat) : Int) ≤ (((indL (bl line) 0).1 : Nat) : Int) := by omega
  have hged : decide (((endL (bl line) : Nat) : Int) ≤ (((indL (bl line) 0).1 : Nat) : Int)) = false := decide_eq_false hge
  have hgen : ¬ endL (bl line) ≤ (indL (bl line) 0).1 := by omega
  generalize hTI : (indL (bl line) 0).1 = ti at *
  generalize hCO : (indL (bl line) 0).2 = co at *
  generalize hEE : endL (bl line) = E at *
  have i0 : (0 : Int) ≤ (ti : Int) := by omega
  have i1 : (ti : Int) < line.size := by omega
  obtain ⟨x, hx⟩ : ∃ x, line[ti].toNat = x := ⟨_, rfl⟩
  have hbx : bt line ti = x := by rw [← bt_eq hlt]; exact hx
  have hx0 : ((x : Int) == 35) = false := beq_eq_false_iff_ne.2 (by omega)
  have hx1 : ¬ (x : Int) = 35 := by omega
  have hlen := hok.len
  have cf : W.cell? ⟨bs, 67, none⟩ = some (.int .u8 (s.flags : Nat)) := HD.flags
  have hld := dc_state HD hok
  have HOP := Lib.hid (fun W' => refOpen_any W' s hlen)
  rw [hf, show ((1 : Nat) : Int) = 1 from rfl] at cf
  have HDL := Lib.hid (fun (w1 : World) k v es (h : DcP w0 w1 B r bs (svP (withC s (s.cols.take k))) v es) => dc_state h (withC_ok hok k))
  have HOPL := Lib.hid (fun W' k => refOpen_any W' (withC s (s.cols.take k)) (withC_ok hok k).len)
  have HCF := Lib.hid (fun (w1 : World) k v es (h : DcP w0 w1 B r bs (svP (withC s (s.cols.take k))) v es) => (show w1.cell? ⟨bs, 67, none⟩ = some (.int .u8 1) from by have := h.flags; change _ = some (Value.int .u8 ((s.flags : Nat) : Int)) at this; rw [hf] at this; exact this))
  have HUPC := Lib.hid hok.up
  have HKL0 := Lib.hid (kept_len co s.cols)
  have HKT := Lib.hid (kept_take co s.cols)
  have HPO := Lib.hid (fun k (a : k ≤ s.cols.length) (b : (keptC co s.cols).length ≤ k) (c : co < opnC (s.cols.take k)) => pop_on hok.up a b c)
  have HPE := Lib.hid (fun k (a : k ≤ s.cols.length) (b : (keptC co s.cols).length ≤ k) (c : ¬ co < opnC (s.cols.take k)) => pop_end hok.up a b c)
  generalize hCC : keptC co s.cols = C at *
  have hgt : ¬ ((opnC s.cols : Nat) : Int) < (co : Int) := by omega
  generalize opnC s.cols = oc0 at HOP hgt hup
  have hgd : decide (oc0 < co) = false := decide_eq_false hup
  have hgd2 : decide ((oc0 : Int) < (co : Int)) = false := decide_eq_false hgt
  have HLEN := Lib.hid hlen
  clear HD hQ hok hs hm he hti hEs hTI hCO hEE h35 hbx hlen hfl1 hf hup hCC
  go_wp2_with (first
    | (go_at_call 16; ((with_reducible refine (HE.out _).mono ?_); rintro e wE ⟨rfl, rfl⟩))
    | (go_at_call 17; ((with_reducible refine (HI.out _).mono ?_); rintro e wI ⟨rfl, rfl⟩))
    | (go_at_call 18; ((with_reducible refine (HOP.out _).mono ?_); rintro e w1 ⟨rfl, hu⟩; have HD1 := Lib.hid (HDD.out.more hu); clear hu)))
  have h00 : DcP w0 w1 B r bs (svP (withC s (s.cols.take s.cols.length))) (.slice none 0 0) (List.replicate (s.cols.length - s.cols.length) (evC 0 0)) := by rw [List.take_length, Nat.sub_self]; exact HD1.out
  have H00 := Lib.hid h00
  clear h00 hld cf hgt hgd hgd2 HD1 HDD
  go_loopg [7] s.cols.length (fun k u wr => Hid (k ≤ s.cols.length ∧ C.length ≤ k) ∧ Hid (DcP w0 wr B r bs (svP (withC s (s.cols.take k))) u (List.replicate (s.cols.length - k) (evC 0 0))))
  case atStart => exact ⟨Lib.hid ⟨Nat.le_refl _, HKL0.out⟩, H00⟩
  case round =>
    clear H00
    obtain ⟨HK, HR⟩ := hrel
    obtain ⟨k, hgk⟩ : ∃ k, k = gk := ⟨_, rfl⟩
    subst hgk
    have hld := HDL.out _ _ _ _ HR.out
    by_cases hlt : co < opnC (s.cols.take k)
    · obtain ⟨k1, k2⟩ := HPO.out k HK.out.1 HK.out.2 hlt
      have hi : ((co : Nat) : Int) < ((opnC (s.cols.take k) : Nat) : Int) := by omega
      have K1 := Lib.hid k1
      have K2 := Lib.hid k2
      generalize hoc : opnC (s.cols.take k) = oc at hi hlt
      have HOC := Lib.hid hoc
      have hdk : ((s.cols.take k).length : Int) = ((k - 1 + 1 : Nat) : Int) := by rw [List.length_take]; have := HK.out.1; omega
      have HDK := Lib.hid hdk
      clear k1 k2 hlt hoc hdk
      go_upto_region 21 with (go_at_call 18; ((with_reducible refine (HOPL.out _ k).mono ?_); rintro e w1 ⟨rfl, hu⟩; have HD1 := Lib.hid (HR.out.more hu); clear hu; have e0 : opnC (withC s (s.cols.take k)).cols = oc := HOC.out; rw [e0]; clear e0))
      refine piece12_21 w0 w1 B r bs _ _ _ (by rw [List.length_replicate]; have := HLEN.out; omega) HD1.out _ _  ?_
      intro va _ _ _ _ wa HDa
      go_upto_region 22 with fail
      refine piece12_22 w0 wa B r bs (k - 1) _ va _ (by have := HLEN.out; have := HK.out.1; have := K1.out; omega) HDK.out HDa _ _  ?_
      intro _ _ _ _ wb HDb
      go_upto_region 23 with fail
      refine wp_then2 ?_
      refine piece12_23 w0 wb B r bs (k - 1) _ va _ (by have := HLEN.out; have := HK.out.1; have := K1.out; omega) rfl HDb _ _  ?_
      intro _ _ _ _ _ wc HDc
      have HDx := HDc.congr (pop_svL (s := withC s (s.cols.take k)) (by have := HDK.out; show (s.cols.take k).length = _; omega))
      rw [pop_take HK.out.1 K1.out] at HDx
      have e9 : List.replicate (s.cols.length - k) (evC 0 0) ++ [⟨2, 0, 0, 0⟩] = List.replicate (s.cols.length - (k - 1)) (evC 0 0) := by
        have := K1.out
        have := HK.out.1
        rw [show s.cols.length - (k - 1) = (s.cols.length - k) + 1 from by omega, List.replicate_succ']; rfl
      rw [e9] at HDx
      have HF := Lib.hid HDx
      clear HDx HDa HDb HDc e9
      dsimp only [Exit.inBlock, Exit.then]
      first | apply_assumption | skip
      go_roundg (k - 1)
      case measure => have := K1.out; omega
      case rel => exact ⟨Lib.hid ⟨by have := HK.out.1; omega, K2.out⟩, HF⟩
    · have hk := HPE.out k HK.out.1 HK.out.2 hlt
      have hi : ¬ ((co : Nat) : Int) < ((opnC (s.cols.take k) : Nat) : Int) := by omega
      have hct : s.cols.take k = C := by rw [hk]; exact HKT.out.symm
      have HCT := Lib.hid hct
      have HKC := Lib.hid hk
      generalize hoc : opnC (s.cols.take k) = oc at hi hlt
      have HOC := Lib.hid hoc
      have hcf := HCF.out _ _ _ _ HR.out
      clear hk hct hoc hlt
      go_upto_region 26 with (go_at_call 18; ((with_reducible refine (HOPL.out _ k).mono ?_); rintro e w1 ⟨rfl, hu⟩; have HD1 := Lib.hid (HR.out.more hu); clear hu; have hld2 := HDL.out _ _ _ _ HD1.out; have e0 : opnC (withC s (s.cols.take k)).cols = oc := HOC.out; rw [e0]; clear e0))
      have HDx := HD1.out
      rw [HCT.out, HKC.out] at HDx
      have hlenx := HLEN.out
      refine piece12_26 w0 _ B r bs _ _ (List.replicate (s.cols.length - C.length) (evC 0 0)) ti (by simp <;> omega) HDx _ _  ?_
      intro v2 _ _ _ _ _ wy HDy
      go_upto_region 27 with fail
      refine piece12_27 w0 _ B r bs _ _ ((List.replicate (s.cols.length - C.length) (evC 0 0)) ++ [⟨3, 2, 0, ti⟩]) ti (by simp <;> omega) HDy _ _  ?_
      intro v3 _ _ _ _ _ wz HDz
      go_upto_region 29 with fail
      refine piece12_29 w0 _ B r bs _ _ _ HDz _ _  ?_
      intro _ wq HDq
      have HDs := HDq.congr (V' := svP (st3 s C)) (by rfl)
      go_upto_region 30 with fail
      refine piece12_30 w0 wq B r bs ti (st3 s C) line _ _ HSZ.out HDs _ _  ?_
      intro bo vo _ _ _ _ _ _ _ wt ho hrow hu
      apply_assumption
      have hq := HQ.out
      rw [HSP.out] at hq
      exact tail30_any w0 wt B r bs bo wq.heap.size E (st3 s C) _ vo _ _ _ (by simp <;> omega) (lenE2 HSZ.out _ _ _) (scanE_ok _ _ _ _).d0 (HDs.more hu) ho hrow HOK3.out Q (by simpa [evO, evL, evC] using hq) 
end Go.Proofs.YtmfcapbllbfjnaaGreatDoor

namespace Go.Proofs.YtmfcapbllbfjnaaGreatDoor
open Go.RowKit
variable {z0 z1 z2 z3 z4 z5 z6 z7 z8 z9 z10 z11 z12 z13 z14 z15 z16 z17 z18 z19 z20 z21 z22 z23 z24 z25 z26 z27 z28 z29 z30 z31 z32 z33 z34 z35 z36 z37 z38 z39 z40 z41 z42 z43 z44 z45 z46 z47 z48 z49 z50 z51 z52 z53 z54 z55 z56 z57 z58 z59 z60 z61 z62 z63 z64 z65 z66 z67 z68 z69 z70 z71 z72 z73 z74 z75 z76 z77 z78 z79 z80 z81 z82 z83 z84 z85 z86 z87 z88 z89 z90 z91 z92 z93 z94 z95 z96 z97 z98 z99 z100 z101 z102 z103 z104 z105 z106 z107 z108 z109 z110 z111 z112 z113 z114 z115 z116 z117 z118 z119 z120 z121 z122 z123 z124 z125 z126 z127 z128 z129 z130 z131 z132 z133 z134 z135 z136 z137 z138 z139 z140 z141 z142 z143 z144 z145 z146 z147 z148 z149 z150 z151 z152 z153 z154 z155 z156 z157 z158 z159 z160 z161 z162 z163 : Value}
attribute [local go_sem ↓] ldS_eq stS_eq elS_eq neS_eq zrS_eq bdS_eq
attribute [local go_sem] ldS_run stS_run elS_run neS_run zrS_run bdS_run0 bdS_run1 g0_rule ldV_drew ldV_drewN

set_option maxRecDepth 1000000 in
set_option maxHeartbeats 16000000 in
theorem lay12_down2 (w0 W : World) (B r bs : Nat) (s : LSt) (line : ByteArray) (hs : (line.size : Int) ≤ 65536) (hok : LOk s) (hm : s.mode = 0) (he : (indL (bl line) 0).1 ≠ endL (bl line)) (h35 : bt line (indL (bl line) 0).1 ≠ 35) (hfl1 : s.flags ≤ 1) (hup : ¬ opnC s.cols < (indL (bl line) 0).2) (hf : s.flags = 0) (hq0 : opnC (keptC (indL (bl line) 0).2 s.cols) ≠ (indL (bl line) 0).2) (HD : DcP w0 W B r bs (svP s) (.slice none 0 0) []) (Q : Exit → Act → World → Prop) (hQ : Fin12 w0 r (scanP s (bl line)).1 (scanP s (bl line)).2 Q) :
    Code.wp Tryz.prog dBody Q ⟨(z0::(Value.string line)::z2::z3::z4::(Value.pointer (some ⟨r, 0, none⟩))::(Value.pointer (some ⟨bs, 0, none⟩))::(Value.slice none 0 0)::z8::z9::z10::z11::z12::z13::z14::z15::z16::z17::z18::z19::z20::z21::z22::z23::z24::z25::z26::z27::z28::z29::z30::z31::z32::z33::z34::z35::z36::z37::z38::z39::z40::z41::z42::z43::z44::z45::z46::z47::z48::z49::z50::z51::z52::z53::z54::z55::z56::z57::z58::z59::z60::z61::z62::z63::z64::z65::z66::z67::z68::z69::z70::z71::z72::z73::z74::z75::z76::z77::z78::z79::z80::z81::z82::z83::z84::z85::z86::z87::z88::z89::z90::z91::z92::z93::z94::z95::z96::z97::z98::z99::z100::z101::z102::z103::z104::z105::z106::z107::z108::z109::z110::z111::z112::z113::z114::z115::z116::z117::z118::z119::z120::z121::z122::z123::z124::z125::z126::z127::z128::z129::z130::z131::z132::z133::z134::z135::z136::z137::z138::z139::z140::z141::z142::z143::z144::z145::z146::z147::z148::z149::z150::z151::z152::z153::z154::z155::z156::z157::z158::z159::z160::z161::z162::z163::[]).toArray, []⟩ W := by
  conv => arg 2; whnf
  have hti := ind_end (bl line)
  have hEs := endL_le (bl line)
  rw [bl_len] at hEs
  have HE := Lib.hid (fun W => end_any line W (by omega))
  have HI := Lib.hid (fun W => refIndent_any line 0 0 8 W hs)
  rw [inE_ind line hs] at HI
  have cm : W.cell? ⟨bs, 65, none⟩ = some (.int .u8 0) := by have := HD.mode; change _ = some (Value.int .u8 ((s.mode : Nat) : Int)) at this; rw [hm] at this; exact this
  have HDD := Lib.hid HD
  have HQ := Lib.hid hQ
  have HOK := Lib.hid hok
  have HSZ := Lib.hid hs
  have HM := Lib.hid hm
  have hsp := scan_lay (s := s) hm hfl1 (fun k => k.elim he h35) (show layL s.cols s.flags (indL (bl line) 0).1 (indL (bl line) 0).2 = (List.replicate (s.cols.length - (keptC (indL (bl line) 0).2 s.cols).length) (evC 0 0) ++ [⟨3, 2, 0, (indL (bl line) 0).1⟩], keptC (indL (bl line) 0).2 s.cols) from by unfold layL; rw [if_neg hup, if_pos (Or.inr hq0)]; rfl)
  have hok3 := scanP_ok hok (l := bl line) (by rw [bl_len]; omega)
  rw [hsp] at hok3
  have HSP := Lib.hid hsp
  have HOK3 := Lib.hid hok3
  clear hsp hok3
  have hlt : (indL (bl line) 0).1 < line.size := by omega
  have hge : ¬ ((endL (bl line) : Nat) : Int) ≤ (((indL (bl line) 0).1 : Nat) : Int) := by omega
  have hged : decide (((endL (bl line) : Nat) : Int) ≤ (((indL (bl line) 0).1 : Nat) : Int)) = false := decide_eq_false hge
  have hgen : ¬ endL (bl line) ≤ (indL (bl line) 0).1 := by omega
  generalize hTI : (indL (bl line) 0).1 = ti at *
  generalize hCO : (indL (bl line) 0).2 = co at *
  generalize hEE : endL (bl line) = E at *
  have i0 : (0 : Int) ≤ (ti : Int) := by omega
  have i1 : (ti : Int) < line.size := by omega
  obtain ⟨x, hx⟩ : ∃ x, line[ti].toNat = x := ⟨_, rfl⟩
  have hbx : bt line ti = x := by rw [← bt_eq hlt]; exact hx
  have hx0 : ((x : Int) == 35) = false := beq_eq_false_iff_ne.2 (by omega)
  have hx1 : ¬ (x : Int) = 35 := by omega
  have hlen := hok.len
  have cf : W.cell? ⟨bs, 67, none⟩ = some (.int .u8 (s.flags : Nat)) := HD.flags
  have hld := dc_state HD hok
  have HOP := Lib.hid (fun W' => refOpen_any W' s hlen)
  rw [hf, show ((0 : Nat) : Int) = 0 from rfl] at cf
  have HDL := Lib.hid (fun (w1 : World) k v es (h : DcP w0 w1 B r bs (svP (withC s (s.cols.take k))) v es) => dc_state h (withC_ok hok k))
  have HOPL := Lib.hid (fun W' k => refOpen_any W' (withC s (s.cols.take k)) (withC_ok hok k).len)
  have HCF := Lib.hid (fun (w1 : World) k v es (h : DcP w0 w1 B r bs (svP (withC s (s.cols.take k))) v es) => (show w1.cell? ⟨bs, 67, none⟩ = some (.int .u8 0) from by have := h.flags; change _ = some (Value.int .u8 ((s.flags : Nat) : Int)) at this; rw [hf] at this; exact this))
  have HUPC := Lib.hid hok.up
  have HKL0 := Lib.hid (kept_len co s.cols)
  have HKT := Lib.hid (kept_take co s.cols)
  have HPO := Lib.hid (fun k (a : k ≤ s.cols.length) (b : (keptC co s.cols).length ≤ k) (c : co < opnC (s.cols.take k)) => pop_on hok.up a b c)
  have HPE := Lib.hid (fun k (a : k ≤ s.cols.length) (b : (keptC co s.cols).length ≤ k) (c : ¬ co < opnC (s.cols.take k)) => pop_end hok.up a b c)
  generalize hCC : keptC co s.cols = C at *
  have hgt : ¬ ((opnC s.cols : Nat) : Int) < (co : Int) := by omega
  generalize opnC s.cols = oc0 at HOP hgt hup
  have hgd : decide (oc0 < co) = false := decide_eq_false hup
  have hgd2 : decide ((oc0 : Int) < (co : Int)) = false := decide_eq_false hgt
  have HQ0 := Lib.hid hq0
  have HLEN := Lib.hid hlen
  clear HD hQ hok hs hm he hti hEs hTI hCO hEE h35 hbx hlen hfl1 hf hup hCC hq0
  go_wp2_with (first
    | (go_at_call 16; ((with_reducible refine (HE.out _).mono ?_); rintro e wE ⟨rfl, rfl⟩))
    | (go_at_call 17; ((with_reducible refine (HI.out _).mono ?_); rintro e wI ⟨rfl, rfl⟩))
    | (go_at_call 18; ((with_reducible refine (HOP.out _).mono ?_); rintro e w1 ⟨rfl, hu⟩; have HD1 := Lib.hid (HDD.out.more hu); clear hu)))
  have h00 : DcP w0 w1 B r bs (svP (withC s (s.cols.take s.cols.length))) (.slice none 0 0) (List.replicate (s.cols.length - s.cols.length) (evC 0 0)) := by rw [List.take_length, Nat.sub_self]; exact HD1.out
  have H00 := Lib.hid h00
  clear h00 hld cf hgt hgd hgd2 HD1 HDD
  go_loopg [7] s.cols.length (fun k u wr => Hid (k ≤ s.cols.length ∧ C.length ≤ k) ∧ Hid (DcP w0 wr B r bs (svP (withC s (s.cols.take k))) u (List.replicate (s.cols.length - k) (evC 0 0))))
  case atStart => exact ⟨Lib.hid ⟨Nat.le_refl _, HKL0.out⟩, H00⟩
  case round =>
    clear H00
    obtain ⟨HK, HR⟩ := hrel
    obtain ⟨k, hgk⟩ : ∃ k, k = gk := ⟨_, rfl⟩
    subst hgk
    have hld := HDL.out _ _ _ _ HR.out
    by_cases hlt : co < opnC (s.cols.take k)
    · obtain ⟨k1, k2⟩ := HPO.out k HK.out.1 HK.out.2 hlt
      have hi : ((co : Nat) : Int) < ((opnC (s.cols.take k) : Nat) : Int) := by omega
      have K1 := Lib.hid k1
      have K2 := Lib.hid k2
      generalize hoc : opnC (s.cols.take k) = oc at hi hlt
      have HOC := Lib.hid hoc
      have hdk : ((s.cols.take k).length : Int) = ((k - 1 + 1 : Nat) : Int) := by rw [List.length_take]; have := HK.out.1; omega
      have HDK := Lib.hid hdk
      clear k1 k2 hlt hoc hdk
      go_upto_region 21 with (go_at_call 18; ((with_reducible refine (HOPL.out _ k).mono ?_); rintro e w1 ⟨rfl, hu⟩; have HD1 := Lib.hid (HR.out.more hu); clear hu; have e0 : opnC (withC s (s.cols.take k)).cols = oc := HOC.out; rw [e0]; clear e0))
      refine piece12_21 w0 w1 B r bs _ _ _ (by rw [List.length_replicate]; have := HLEN.out; omega) HD1.out _ _  ?_
      intro va _ _ _ _ wa HDa
      go_upto_region 22 with fail
      refine piece12_22 w0 wa B r bs (k - 1) _ va _ (by have := HLEN.out; have := HK.out.1; have := K1.out; omega) HDK.out HDa _ _  ?_
      intro _ _ _ _ wb HDb
      go_upto_region 23 with fail
      refine wp_then2 ?_
      refine piece12_23 w0 wb B r bs (k - 1) _ va _ (by have := HLEN.out; have := HK.out.1; have := K1.out; omega) rfl HDb _ _  ?_
      intro _ _ _ _ _ wc HDc
      have HDx := HDc.congr (pop_svL (s := withC s (s.cols.take k)) (by have := HDK.out; show (s.cols.take k).length = _; omega))
      rw [pop_take HK.out.1 K1.out] at HDx
      have e9 : List.replicate (s.cols.length - k) (evC 0 0) ++ [⟨2, 0, 0, 0⟩] = List.replicate (s.cols.length - (k - 1)) (evC 0 0) := by
        have := K1.out
        have := HK.out.1
        rw [show s.cols.length - (k - 1) = (s.cols.length - k) + 1 from by omega, List.replicate_succ']; rfl
      rw [e9] at HDx
      have HF := Lib.hid HDx
      clear HDx HDa HDb HDc e9
      dsimp only [Exit.inBlock, Exit.then]
      first | apply_assumption | skip
      go_roundg (k - 1)
      case measure => have := K1.out; omega
      case rel => exact ⟨Lib.hid ⟨by have := HK.out.1; omega, K2.out⟩, HF⟩
    · have hk := HPE.out k HK.out.1 HK.out.2 hlt
      have hi : ¬ ((co : Nat) : Int) < ((opnC (s.cols.take k) : Nat) : Int) := by omega
      have hct : s.cols.take k = C := by rw [hk]; exact HKT.out.symm
      have HCT := Lib.hid hct
      have HKC := Lib.hid hk
      generalize hoc : opnC (s.cols.take k) = oc at hi hlt
      have HOC := Lib.hid hoc
      have hne : ((oc : Int) != (co : Int)) = true := bne_iff_ne.2 (by have := HQ0.out; rw [hct] at hoc; omega)
      have hcf := HCF.out _ _ _ _ HR.out
      clear hk hct hoc hlt
      go_upto_region 26 with (first
    | (go_at_call 18; ((with_reducible refine (HOPL.out _ k).mono ?_); rintro e w1 ⟨rfl, hu⟩; have HD1 := Lib.hid (HR.out.more hu); clear hu; have hld2 := HDL.out _ _ _ _ HD1.out; have e0 : opnC (withC s (s.cols.take k)).cols = oc := HOC.out; rw [e0]; clear e0))
    | (go_at_call 18; ((with_reducible refine (HOPL.out _ k).mono ?_); rintro e w2 ⟨rfl, hu⟩; have HD2 := Lib.hid (HD1.out.more hu); clear hu; have e0 : opnC (withC s (s.cols.take k)).cols = oc := HOC.out; rw [e0]; clear e0)))
      have HDx := HD2.out
      rw [HCT.out, HKC.out] at HDx
      have hlenx := HLEN.out
      refine piece12_26 w0 _ B r bs _ _ (List.replicate (s.cols.length - C.length) (evC 0 0)) ti (by simp <;> omega) HDx _ _  ?_
      intro v2 _ _ _ _ _ wy HDy
      go_upto_region 27 with fail
      refine piece12_27 w0 _ B r bs _ _ ((List.replicate (s.cols.length - C.length) (evC 0 0)) ++ [⟨3, 2, 0, ti⟩]) ti (by simp <;> omega) HDy _ _  ?_
      intro v3 _ _ _ _ _ wz HDz
      go_upto_region 29 with fail
      refine piece12_29 w0 _ B r bs _ _ _ HDz _ _  ?_
      intro _ wq HDq
      have HDs := HDq.congr (V' := svP (st3 s C)) (by rfl)
      go_upto_region 30 with fail
      refine piece12_30 w0 wq B r bs ti (st3 s C) line _ _ HSZ.out HDs _ _  ?_
      intro bo vo _ _ _ _ _ _ _ wt ho hrow hu
      apply_assumption
      have hq := HQ.out
      rw [HSP.out] at hq
      exact tail30_any w0 wt B r bs bo wq.heap.size E (st3 s C) _ vo _ _ _ (by simp <;> omega) (lenE2 HSZ.out _ _ _) (scanE_ok _ _ _ _).d0 (HDs.more hu) ho hrow HOK3.out Q (by simpa [evO, evL, evC] using hq) 
end Go.Proofs.YtmfcapbllbfjnaaGreatDoor

namespace Go.Proofs.YtmfcapbllbfjnaaGreatDoor
open Go.RowKit
variable {z0 z1 z2 z3 z4 z5 z6 z7 z8 z9 z10 z11 z12 z13 z14 z15 z16 z17 z18 z19 z20 z21 z22 z23 z24 z25 z26 z27 z28 z29 z30 z31 z32 z33 z34 z35 z36 z37 z38 z39 z40 z41 z42 z43 z44 z45 z46 z47 z48 z49 z50 z51 z52 z53 z54 z55 z56 z57 z58 z59 z60 z61 z62 z63 z64 z65 z66 z67 z68 z69 z70 z71 z72 z73 z74 z75 z76 z77 z78 z79 z80 z81 z82 z83 z84 z85 z86 z87 z88 z89 z90 z91 z92 z93 z94 z95 z96 z97 z98 z99 z100 z101 z102 z103 z104 z105 z106 z107 z108 z109 z110 z111 z112 z113 z114 z115 z116 z117 z118 z119 z120 z121 z122 z123 z124 z125 z126 z127 z128 z129 z130 z131 z132 z133 z134 z135 z136 z137 z138 z139 z140 z141 z142 z143 z144 z145 z146 z147 z148 z149 z150 z151 z152 z153 z154 z155 z156 z157 z158 z159 z160 z161 z162 z163 : Value}
attribute [local go_sem ↓] ldS_eq stS_eq elS_eq neS_eq zrS_eq bdS_eq
attribute [local go_sem] ldS_run stS_run elS_run neS_run zrS_run bdS_run0 bdS_run1 g0_rule ldV_drew ldV_drewN

set_option maxRecDepth 1000000 in
set_option maxHeartbeats 16000000 in
theorem lay12_down3 (w0 W : World) (B r bs : Nat) (s : LSt) (line : ByteArray) (hs : (line.size : Int) ≤ 65536) (hok : LOk s) (hm : s.mode = 0) (he : (indL (bl line) 0).1 ≠ endL (bl line)) (h35 : bt line (indL (bl line) 0).1 ≠ 35) (hfl1 : s.flags ≤ 1) (hup : ¬ opnC s.cols < (indL (bl line) 0).2) (hf : s.flags = 0) (hq0 : opnC (keptC (indL (bl line) 0).2 s.cols) = (indL (bl line) 0).2) (HD : DcP w0 W B r bs (svP s) (.slice none 0 0) []) (Q : Exit → Act → World → Prop) (hQ : Fin12 w0 r (scanP s (bl line)).1 (scanP s (bl line)).2 Q) :
    Code.wp Tryz.prog dBody Q ⟨(z0::(Value.string line)::z2::z3::z4::(Value.pointer (some ⟨r, 0, none⟩))::(Value.pointer (some ⟨bs, 0, none⟩))::(Value.slice none 0 0)::z8::z9::z10::z11::z12::z13::z14::z15::z16::z17::z18::z19::z20::z21::z22::z23::z24::z25::z26::z27::z28::z29::z30::z31::z32::z33::z34::z35::z36::z37::z38::z39::z40::z41::z42::z43::z44::z45::z46::z47::z48::z49::z50::z51::z52::z53::z54::z55::z56::z57::z58::z59::z60::z61::z62::z63::z64::z65::z66::z67::z68::z69::z70::z71::z72::z73::z74::z75::z76::z77::z78::z79::z80::z81::z82::z83::z84::z85::z86::z87::z88::z89::z90::z91::z92::z93::z94::z95::z96::z97::z98::z99::z100::z101::z102::z103::z104::z105::z106::z107::z108::z109::z110::z111::z112::z113::z114::z115::z116::z117::z118::z119::z120::z121::z122::z123::z124::z125::z126::z127::z128::z129::z130::z131::z132::z133::z134::z135::z136::z137::z138::z139::z140::z141::z142::z143::z144::z145::z146::z147::z148::z149::z150::z151::z152::z153::z154::z155::z156::z157::z158::z159::z160::z161::z162::z163::[]).toArray, []⟩ W := by
  conv => arg 2; whnf
  have hti := ind_end (bl line)
  have hEs := endL_le (bl line)
  rw [bl_len] at hEs
  have HE := Lib.hid (fun W => end_any line W (by omega))
  have HI := Lib.hid (fun W => refIndent_any line 0 0 8 W hs)
  rw [inE_ind line hs] at HI
  have cm : W.cell? ⟨bs, 65, none⟩ = some (.int .u8 0) := by have := HD.mode; change _ = some (Value.int .u8 ((s.mode : Nat) : Int)) at this; rw [hm] at this; exact this
  have HDD := Lib.hid HD
  have HQ := Lib.hid hQ
  have HOK := Lib.hid hok
  have HSZ := Lib.hid hs
  have HM := Lib.hid hm
  have hsp := scan_lay (s := s) hm hfl1 (fun k => k.elim he h35) (show layL s.cols s.flags (indL (bl line) 0).1 (indL (bl line) 0).2 = (List.replicate (s.cols.length - (keptC (indL (bl line) 0).2 s.cols).length) (evC 0 0) ++ [], keptC (indL (bl line) 0).2 s.cols) from by unfold layL; rw [if_neg hup, if_neg (by rintro (a | a); omega; exact a hq0)])
  have hok3 := scanP_ok hok (l := bl line) (by rw [bl_len]; omega)
  rw [hsp] at hok3
  have HSP := Lib.hid hsp
  have HOK3 := Lib.hid hok3
  clear hsp hok3
  have hlt : (indL (bl line) 0).1 < line.size := by omega
  have hge : ¬ ((endL (bl line) : Nat) : Int) ≤ (((indL (bl line) 0).1 : Nat) : Int) := by omega
  have hged : decide (((endL (bl line) : Nat) : Int) ≤ (((indL (bl line) 0).1 : Nat) : Int)) = false := decide_eq_false hge
  have hgen : ¬ endL (bl line) ≤ (indL (bl line) 0).1 := by omega
  generalize hTI : (indL (bl line) 0).1 = ti at *
  generalize hCO : (indL (bl line) 0).2 = co at *
  generalize hEE : endL (bl line) = E at *
  have i0 : (0 : Int) ≤ (ti : Int) := by omega
  have i1 : (ti : Int) < line.size := by omega
  obtain ⟨x, hx⟩ : ∃ x, line[ti].toNat = x := ⟨_, rfl⟩
  have hbx : bt line ti = x := by rw [← bt_eq hlt]; exact hx
  have hx0 : ((x : Int) == 35) = false := beq_eq_false_iff_ne.2 (by omega)
  have hx1 : ¬ (x : Int) = 35 := by omega
  have hlen := hok.len
  have cf : W.cell? ⟨bs, 67, none⟩ = some (.int .u8 (s.flags : Nat)) := HD.flags
  have hld := dc_state HD hok
  have HOP := Lib.hid (fun W' => refOpen_any W' s hlen)
  rw [hf, show ((0 : Nat) : Int) = 0 from rfl] at cf
  have HDL := Lib.hid (fun (w1 : World) k v es (h : DcP w0 w1 B r bs (svP (withC s (s.cols.take k))) v es) => dc_state h (withC_ok hok k))
  have HOPL := Lib.hid (fun W' k => refOpen_any W' (withC s (s.cols.take k)) (withC_ok hok k).len)
  have HCF := Lib.hid (fun (w1 : World) k v es (h : DcP w0 w1 B r bs (svP (withC s (s.cols.take k))) v es) => (show w1.cell? ⟨bs, 67, none⟩ = some (.int .u8 0) from by have := h.flags; change _ = some (Value.int .u8 ((s.flags : Nat) : Int)) at this; rw [hf] at this; exact this))
  have HUPC := Lib.hid hok.up
  have HKL0 := Lib.hid (kept_len co s.cols)
  have HKT := Lib.hid (kept_take co s.cols)
  have HPO := Lib.hid (fun k (a : k ≤ s.cols.length) (b : (keptC co s.cols).length ≤ k) (c : co < opnC (s.cols.take k)) => pop_on hok.up a b c)
  have HPE := Lib.hid (fun k (a : k ≤ s.cols.length) (b : (keptC co s.cols).length ≤ k) (c : ¬ co < opnC (s.cols.take k)) => pop_end hok.up a b c)
  generalize hCC : keptC co s.cols = C at *
  have hgt : ¬ ((opnC s.cols : Nat) : Int) < (co : Int) := by omega
  generalize opnC s.cols = oc0 at HOP hgt hup
  have hgd : decide (oc0 < co) = false := decide_eq_false hup
  have hgd2 : decide ((oc0 : Int) < (co : Int)) = false := decide_eq_false hgt
  have HQ0 := Lib.hid hq0
  have HLEN := Lib.hid hlen
  clear HD hQ hok hs hm he hti hEs hTI hCO hEE h35 hbx hlen hfl1 hf hup hCC hq0
  go_wp2_with (first
    | (go_at_call 16; ((with_reducible refine (HE.out _).mono ?_); rintro e wE ⟨rfl, rfl⟩))
    | (go_at_call 17; ((with_reducible refine (HI.out _).mono ?_); rintro e wI ⟨rfl, rfl⟩))
    | (go_at_call 18; ((with_reducible refine (HOP.out _).mono ?_); rintro e w1 ⟨rfl, hu⟩; have HD1 := Lib.hid (HDD.out.more hu); clear hu)))
  have h00 : DcP w0 w1 B r bs (svP (withC s (s.cols.take s.cols.length))) (.slice none 0 0) (List.replicate (s.cols.length - s.cols.length) (evC 0 0)) := by rw [List.take_length, Nat.sub_self]; exact HD1.out
  have H00 := Lib.hid h00
  clear h00 hld cf hgt hgd hgd2 HD1 HDD
  go_loopg [7] s.cols.length (fun k u wr => Hid (k ≤ s.cols.length ∧ C.length ≤ k) ∧ Hid (DcP w0 wr B r bs (svP (withC s (s.cols.take k))) u (List.replicate (s.cols.length - k) (evC 0 0))))
  case atStart => exact ⟨Lib.hid ⟨Nat.le_refl _, HKL0.out⟩, H00⟩
  case round =>
    clear H00
    obtain ⟨HK, HR⟩ := hrel
    obtain ⟨k, hgk⟩ : ∃ k, k = gk := ⟨_, rfl⟩
    subst hgk
    have hld := HDL.out _ _ _ _ HR.out
    by_cases hlt : co < opnC (s.cols.take k)
    · obtain ⟨k1, k2⟩ := HPO.out k HK.out.1 HK.out.2 hlt
      have hi : ((co : Nat) : Int) < ((opnC (s.cols.take k) : Nat) : Int) := by omega
      have K1 := Lib.hid k1
      have K2 := Lib.hid k2
      generalize hoc : opnC (s.cols.take k) = oc at hi hlt
      have HOC := Lib.hid hoc
      have hdk : ((s.cols.take k).length : Int) = ((k - 1 + 1 : Nat) : Int) := by rw [List.length_take]; have := HK.out.1; omega
      have HDK := Lib.hid hdk
      clear k1 k2 hlt hoc hdk
      go_upto_region 21 with (go_at_call 18; ((with_reducible refine (HOPL.out _ k).mono ?_); rintro e w1 ⟨rfl, hu⟩; have HD1 := Lib.hid (HR.out.more hu); clear hu; have e0 : opnC (withC s (s.cols.take k)).cols = oc := HOC.out; rw [e0]; clear e0))
      refine piece12_21 w0 w1 B r bs _ _ _ (by rw [List.length_replicate]; have := HLEN.out; omega) HD1.out _ _  ?_
      intro va _ _ _ _ wa HDa
      go_upto_region 22 with fail
      refine piece12_22 w0 wa B r bs (k - 1) _ va _ (by have := HLEN.out; have := HK.out.1; have := K1.out; omega) HDK.out HDa _ _  ?_
      intro _ _ _ _ wb HDb
      go_upto_region 23 with fail
      refine wp_then2 ?_
      refine piece12_23 w0 wb B r bs (k - 1) _ va _ (by have := HLEN.out; have := HK.out.1; have := K1.out; omega) rfl HDb _ _  ?_
      intro _ _ _ _ _ wc HDc
      have HDx := HDc.congr (pop_svL (s := withC s (s.cols.take k)) (by have := HDK.out; show (s.cols.take k).length = _; omega))
      rw [pop_take HK.out.1 K1.out] at HDx
      have e9 : List.replicate (s.cols.length - k) (evC 0 0) ++ [⟨2, 0, 0, 0⟩] = List.replicate (s.cols.length - (k - 1)) (evC 0 0) := by
        have := K1.out
        have := HK.out.1
        rw [show s.cols.length - (k - 1) = (s.cols.length - k) + 1 from by omega, List.replicate_succ']; rfl
      rw [e9] at HDx
      have HF := Lib.hid HDx
      clear HDx HDa HDb HDc e9
      dsimp only [Exit.inBlock, Exit.then]
      first | apply_assumption | skip
      go_roundg (k - 1)
      case measure => have := K1.out; omega
      case rel => exact ⟨Lib.hid ⟨by have := HK.out.1; omega, K2.out⟩, HF⟩
    · have hk := HPE.out k HK.out.1 HK.out.2 hlt
      have hi : ¬ ((co : Nat) : Int) < ((opnC (s.cols.take k) : Nat) : Int) := by omega
      have hct : s.cols.take k = C := by rw [hk]; exact HKT.out.symm
      have HCT := Lib.hid hct
      have HKC := Lib.hid hk
      generalize hoc : opnC (s.cols.take k) = oc at hi hlt
      have HOC := Lib.hid hoc
      obtain rfl : oc = co := by have := HQ0.out; rw [hct] at hoc; omega
      have hcf := HCF.out _ _ _ _ HR.out
      clear hk hct hoc hlt
      go_upto_region 27 with (first
    | (go_at_call 18; ((with_reducible refine (HOPL.out _ k).mono ?_); rintro e w1 ⟨rfl, hu⟩; have HD1 := Lib.hid (HR.out.more hu); clear hu; have hld2 := HDL.out _ _ _ _ HD1.out; have e0 : opnC (withC s (s.cols.take k)).cols = oc := HOC.out; rw [e0]; clear e0))
    | (go_at_call 18; ((with_reducible refine (HOPL.out _ k).mono ?_); rintro e w2 ⟨rfl, hu⟩; have HD2 := Lib.hid (HD1.out.more hu); clear hu; have e0 : opnC (withC s (s.cols.take k)).cols = oc := HOC.out; rw [e0]; clear e0)))
      have HDx := HD2.out
      rw [HCT.out, HKC.out] at HDx
      have hlenx := HLEN.out
      refine piece12_27 w0 _ B r bs _ _ (List.replicate (s.cols.length - C.length) (evC 0 0)) ti (by simp <;> omega) HDx _ _  ?_
      intro v3 _ _ _ _ _ wz HDz
      go_upto_region 29 with fail
      refine piece12_29 w0 _ B r bs _ _ _ HDz _ _  ?_
      intro _ wq HDq
      have HDs := HDq.congr (V' := svP (st3 s C)) (by rfl)
      go_upto_region 30 with fail
      refine piece12_30 w0 wq B r bs ti (st3 s C) line _ _ HSZ.out HDs _ _  ?_
      intro bo vo _ _ _ _ _ _ _ wt ho hrow hu
      apply_assumption
      have hq := HQ.out
      rw [HSP.out] at hq
      exact tail30_any w0 wt B r bs bo wq.heap.size E (st3 s C) _ vo _ _ _ (by simp <;> omega) (lenE2 HSZ.out _ _ _) (scanE_ok _ _ _ _).d0 (HDs.more hu) ho hrow HOK3.out Q (by simpa [evO, evL, evC] using hq) 
end Go.Proofs.YtmfcapbllbfjnaaGreatDoor

namespace Go.Proofs.YtmfcapbllbfjnaaGreatDoor
open Go.RowKit
variable {u0 u1 u2 u3 u4 u5 u6 u7 u8 u9 u10 u11 u12 u13 u14 u15 u16 u17 u18 u19 u20 u21 u22 u23 u24 u25 u26 u27 u28 u29 u30 u31 u32 u33 u34 u35 u36 u37 u38 u39 u40 u41 u42 u43 u44 u45 u46 u47 u48 u49 u50 u51 u52 u53 u54 u55 u56 u57 u58 u59 u60 u61 u62 u63 u64 u65 u66 u67 u68 u69 u70 u71 u72 u73 u74 u75 u76 u77 u78 u79 u80 u81 u82 u83 u84 u85 u86 u87 u88 u89 u90 u91 u92 u93 u94 u95 u96 u97 u98 u99 u100 u101 u102 u103 u104 u105 u106 u107 u108 u109 u110 u111 u112 u113 u114 u115 u116 u117 u118 u119 u120 u121 u122 u123 u124 u125 u126 u127 u128 u129 u130 u131 u132 u133 u134 u135 u136 u137 u138 u139 u140 u141 u142 u143 u144 u145 u146 u147 u148 u149 u150 u151 u152 u153 u154 u155 u156 u157 u158 u159 u160 u161 u162 u163 : Value}
attribute [local go_sem ↓] ldS_eq stS_eq elS_eq neS_eq zrS_eq bdS_eq
attribute [local go_sem] ldS_run stS_run elS_run neS_run zrS_run bdS_run0 bdS_run1 g0_rule ldV_drew ldV_drewN

set_option maxRecDepth 1000000 in
set_option maxHeartbeats 16000000 in
theorem dbody_any (w0 W : World) (B r bs : Nat) (s : LSt) (line : ByteArray) (hs : (line.size : Int) ≤ 65536) (hok : LOk s) (HD : DcP w0 W B r bs (svP s) (.slice none 0 0) []) (Q : Exit → Act → World → Prop) (hQ : Fin12 w0 r (scanP s (bl line)).1 (scanP s (bl line)).2 Q) :
    Code.wp Tryz.prog dBody Q ⟨(u0::(Value.string line)::u2::u3::u4::(Value.pointer (some ⟨r, 0, none⟩))::(Value.pointer (some ⟨bs, 0, none⟩))::(Value.slice none 0 0)::u8::u9::u10::u11::u12::u13::u14::u15::u16::u17::u18::u19::u20::u21::u22::u23::u24::u25::u26::u27::u28::u29::u30::u31::u32::u33::u34::u35::u36::u37::u38::u39::u40::u41::u42::u43::u44::u45::u46::u47::u48::u49::u50::u51::u52::u53::u54::u55::u56::u57::u58::u59::u60::u61::u62::u63::u64::u65::u66::u67::u68::u69::u70::u71::u72::u73::u74::u75::u76::u77::u78::u79::u80::u81::u82::u83::u84::u85::u86::u87::u88::u89::u90::u91::u92::u93::u94::u95::u96::u97::u98::u99::u100::u101::u102::u103::u104::u105::u106::u107::u108::u109::u110::u111::u112::u113::u114::u115::u116::u117::u118::u119::u120::u121::u122::u123::u124::u125::u126::u127::u128::u129::u130::u131::u132::u133::u134::u135::u136::u137::u138::u139::u140::u141::u142::u143::u144::u145::u146::u147::u148::u149::u150::u151::u152::u153::u154::u155::u156::u157::u158::u159::u160::u161::u162::u163::[]).toArray, []⟩ W := by
  by_cases hm1 : s.mode = 1
  · exact lay12_in w0 W B r bs s line hs hok hm1 HD Q hQ 
  have hm : s.mode = 0 := by rcases hok.line with h | h <;> omega
  have hfl1 : s.flags ≤ 1 := by rcases hok.line with h | h <;> omega
  have hlen := hok.len
  by_cases he : (indL (bl line) 0).1 = endL (bl line)
  · exact lay12_empty w0 W B r bs s line hs hok hm he HD Q hQ 
  by_cases h35 : bt line (indL (bl line) 0).1 = 35
  · exact lay12_comment w0 W B r bs s line hs hok hm he h35 HD Q hQ 
  by_cases hup : opnC s.cols < (indL (bl line) 0).2
  · by_cases hf : s.flags = 1
    · by_cases hn : s.cols.length < 16
      · exact lay12_push w0 W B r bs s line hs hok hm he h35 hfl1 hup hf hn HD Q hQ 
      · have hn : s.cols.length = 16 := by omega
        exact lay12_err16 w0 W B r bs s line hs hok hm he h35 hfl1 hup hf hn HD Q hQ 
    · have hf : s.flags = 0 := by omega
      exact lay12_err0 w0 W B r bs s line hs hok hm he h35 hfl1 hup hf HD Q hQ 
  · by_cases hf : s.flags = 1
    · exact lay12_down1 w0 W B r bs s line hs hok hm he h35 hfl1 hup hf HD Q hQ 
    · have hf : s.flags = 0 := by omega
      by_cases hq0 : opnC (keptC (indL (bl line) 0).2 s.cols) = (indL (bl line) 0).2
      · exact lay12_down3 w0 W B r bs s line hs hok hm he h35 hfl1 hup hf hq0 HD Q hQ 
      · have hq0 : opnC (keptC (indL (bl line) 0).2 s.cols) ≠ (indL (bl line) 0).2 := hq0
        exact lay12_down2 w0 W B r bs s line hs hok hm he h35 hfl1 hup hf hq0 HD Q hQ 
theorem boxes {w w1 : World} {x : Array Value} (hu : Up (((w.alloc (.cells x TS)).alloc (.cells z0 TS)).alloc (.cells z0 TS)) w1) : w1.heap[w.heap.size + 1]? = some (.cells z0 TS) ∧ w1.heap[w.heap.size + 1 + 1]? = some (.cells z0 TS) ∧ w.heap.size + 1 + 1 + 1 ≤ w1.heap.size ∧ Up w w1 := by
  have e1 : (w.alloc (.cells x TS)).heap.size = w.heap.size + 1 := World.size_alloc _ _
  have e2 : ((w.alloc (.cells x TS)).alloc (.cells z0 TS)).heap.size = w.heap.size + 1 + 1 := by rw [World.size_alloc, e1]
  have e3 : (((w.alloc (.cells x TS)).alloc (.cells z0 TS)).alloc (.cells z0 TS)).heap.size = w.heap.size + 1 + 1 + 1 := by rw [World.size_alloc, e2]
  have hb := Go.heap_alloc_new ((w.alloc (.cells x TS)).alloc (.cells z0 TS)) (.cells z0 TS)
  rw [e2] at hb
  have hr := Go.heap_alloc_new (w.alloc (.cells x TS)) (.cells z0 TS)
  rw [e1] at hr
  have hr2 := (Below.block (Up.alloc ((w.alloc (.cells x TS)).alloc (.cells z0 TS)) (.cells z0 TS)) (w.heap.size + 1) (by rw [e2]; omega)).trans hr
  exact ⟨(Below.block hu _ (by rw [e3]; omega)).trans hr2, (Below.block hu _ (by rw [e3]; omega)).trans hb, by have := Below.size hu; rw [e3] at this; exact this, ((Up.alloc w _).trans ((Up.alloc _ _).trans (Up.alloc _ _))).trans hu⟩
theorem dcp_no {w w1 : World} {x : Array Value} (hu : Up (((w.alloc (.cells x TS)).alloc (.cells z0 TS)).alloc (.cells z0 TS)) w1) : DcP w w1 (w.heap.size + 1 + 1 + 1) (w.heap.size + 1) (w.heap.size + 1 + 1) (svP lst0) (.slice none 0 0) [] := by
  obtain ⟨h1, h2, h3, h4⟩ := boxes hu
  refine ⟨?_, World.ownsRow_nil _ _ _ _, by omega, h4, by omega, h1, by omega, by omega, by omega, h3⟩
  rw [h2, z0_lst]
  rfl
theorem dcp_yes {w w1 : World} {x : Array Value} {s : LSt} (hok : LOk s) (hu : Up (((w.alloc (.cells x TS)).alloc (.cells z0 TS)).alloc (.cells z0 TS)) w1) : DcP w (w1.setCells (w.heap.size + 1 + 1) 0 (stA s).toList) (w.heap.size + 1 + 1 + 1) (w.heap.size + 1) (w.heap.size + 1 + 1) (svP s) (.slice none 0 0) [] := by
  obtain ⟨h1, h2, h3, h4⟩ := boxes hu
  have hb : (w1.setCells (w.heap.size + 1 + 1) 0 (stA s).toList).heap[w.heap.size + 1 + 1]? = some (.cells (stA s) TS) := by
    rw [over_heap _ TS _ _ _ z0 h2, over_all z0 (stA s) (by rw [(stA_is hok).size, z0_is.size])]
  refine ⟨hb, World.ownsRow_nil _ _ _ _, by omega, set_upS h4 (by omega), by omega, ?_, by omega, by omega, by omega, ?_⟩
  · rw [far_heap _ _ (by omega)]
    exact h1
  · exact (Array.getElem?_eq_some_iff.1 hb).1
noncomputable def dAll : Code := (Tryz.f5.body.getD .skip)
set_option maxRecDepth 1000000 in
set_option maxHeartbeats 16000000 in
theorem piece12_4 (r bs : Nat) (line : ByteArray) (W : World) (K : Act → World → Prop) (Q0 : Exit → Act → World → Prop)
    (hK : ∀ (_d999 : Value) (wx : World), wx = W → K ⟨(u0::(Value.string line)::u2::u3::u4::(Value.pointer (some ⟨r, 0, none⟩))::(Value.pointer (some ⟨bs, 0, none⟩))::(Value.slice none 0 0)::u8::u9::u10::u11::u12::u13::u14::u15::u16::u17::u18::u19::u20::u21::u22::u23::u24::u25::u26::u27::u28::u29::u30::u31::u32::u33::u34::u35::u36::u37::u38::u39::u40::u41::u42::u43::u44::u45::u46::u47::u48::u49::u50::u51::u52::u53::u54::u55::u56::u57::u58::u59::u60::u61::u62::u63::u64::u65::u66::u67::u68::u69::u70::u71::u72::u73::u74::u75::u76::u77::u78::u79::u80::u81::u82::u83::u84::u85::u86::u87::u88::u89::u90::u91::u92::u93::u94::u95::u96::u97::u98::u99::u100::u101::u102::u103::u104::u105::u106::u107::u108::u109::u110::u111::u112::u113::u114::u115::u116::u117::u118::u119::u120::u121::u122::u123::u124::u125::u126::u127::u128::u129::u130::u131::u132::u133::u134::u135::u136::u137::u138::u139::u140::u141::u142::u143::u144::u145::u146::u147::u148::u149::u150::u151::u152::u153::u154::u155::u156::u157::u158::u159::u160::u161::u162::u163::[]).toArray, []⟩ wx) :
    Code.wp Tryz.prog ((Tryz.f5.body.bind (dReg 4)).getD .skip) (Exit.then K Q0) ⟨(u0::(Value.string line)::u2::u3::u4::(Value.pointer (some ⟨r, 0, none⟩))::(Value.pointer (some ⟨bs, 0, none⟩))::u7::u8::u9::u10::u11::u12::u13::u14::u15::u16::u17::u18::u19::u20::u21::u22::u23::u24::u25::u26::u27::u28::u29::u30::u31::u32::u33::u34::u35::u36::u37::u38::u39::u40::u41::u42::u43::u44::u45::u46::u47::u48::u49::u50::u51::u52::u53::u54::u55::u56::u57::u58::u59::u60::u61::u62::u63::u64::u65::u66::u67::u68::u69::u70::u71::u72::u73::u74::u75::u76::u77::u78::u79::u80::u81::u82::u83::u84::u85::u86::u87::u88::u89::u90::u91::u92::u93::u94::u95::u96::u97::u98::u99::u100::u101::u102::u103::u104::u105::u106::u107::u108::u109::u110::u111::u112::u113::u114::u115::u116::u117::u118::u119::u120::u121::u122::u123::u124::u125::u126::u127::u128::u129::u130::u131::u132::u133::u134::u135::u136::u137::u138::u139::u140::u141::u142::u143::u144::u145::u146::u147::u148::u149::u150::u151::u152::u153::u154::u155::u156::u157::u158::u159::u160::u161::u162::u163::[]).toArray, []⟩ W := by
  conv => arg 2; whnf
  refine wp_only2 ?_
  have HK := Lib.hid hK
  clear hK
  go_wp2
  exact HK.out (.bool false) _ rfl
set_option maxRecDepth 1000000 in
set_option maxHeartbeats 16000000 in
theorem dall_no (w : World) (x : Array Value) (s : LSt) (line : ByteArray) (hx : IsS x) (hs : (line.size : Int) ≤ 65536) (hok : LOk s) (hM : ∀ W, Calls Tryz.prog 15 #[.agg x] W fun e w' => e = .returned (.bool false) ∧ Up W w') (h0 : s = lst0) (Q : Exit → Act → World → Prop) (hQ : Fin12 w (w.heap.size + 1) (scanP s (bl line)).1 (scanP s (bl line)).2 Q) :
    Code.wp Tryz.prog dAll Q ⟨((Value.agg x)::(Value.string line)::u2::u3::u4::u5::u6::u7::u8::u9::u10::u11::u12::u13::u14::u15::u16::u17::u18::u19::u20::u21::u22::u23::u24::u25::u26::u27::u28::u29::u30::u31::u32::u33::u34::u35::u36::u37::u38::u39::u40::u41::u42::u43::u44::u45::u46::u47::u48::u49::u50::u51::u52::u53::u54::u55::u56::u57::u58::u59::u60::u61::u62::u63::u64::u65::u66::u67::u68::u69::u70::u71::u72::u73::u74::u75::u76::u77::u78::u79::u80::u81::u82::u83::u84::u85::u86::u87::u88::u89::u90::u91::u92::u93::u94::u95::u96::u97::u98::u99::u100::u101::u102::u103::u104::u105::u106::u107::u108::u109::u110::u111::u112::u113::u114::u115::u116::u117::u118::u119::u120::u121::u122::u123::u124::u125::u126::u127::u128::u129::u130::u131::u132::u133::u134::u135::u136::u137::u138::u139::u140::u141::u142::u143::u144::u145::u146::u147::u148::u149::u150::u151::u152::u153::u154::u155::u156::u157::u158::u159::u160::u161::u162::u163::[]).toArray, []⟩ w := by
  conv => arg 2; whnf
  have HM := Lib.hid hM
  have HQ := Lib.hid hQ
  have HOK := Lib.hid hok
  have HSZ := Lib.hid hs
  have hl : ldV (.pointer (some ⟨w.heap.size, 0, none⟩)) (((w.alloc (.cells x TS)).alloc (.cells z0 TS)).alloc (.cells z0 TS)) = some (.agg x) := ldV_up ((Up.alloc _ _).trans (Up.alloc _ _)) (ldV_of hx (range_box w x TS))
  have H0 := Lib.hid h0
  clear h0
  clear hM hQ hok hs hx
  go_upto_region 4 with (go_at_call 15; ((with_reducible refine (HM.out _).mono ?_); rintro e w1 ⟨rfl, hu⟩; have HU1 := Lib.hid hu; clear hl; clear hu))
  refine piece12_4 _ _ _ _ _ _  ?_
  intro _ wx hwx
  subst hwx
  apply_assumption
  exact dbody_any w _ (w.heap.size + 1 + 1 + 1) (w.heap.size + 1) (w.heap.size + 1 + 1) s line HSZ.out HOK.out (H0.out ▸ dcp_no HU1.out) Q HQ.out 
set_option maxRecDepth 1000000 in
set_option maxHeartbeats 16000000 in
theorem dall_yes (w : World) (x : Array Value) (s : LSt) (line : ByteArray) (hx : IsS x) (hs : (line.size : Int) ≤ 65536) (hok : LOk s) (hM : ∀ W, Calls Tryz.prog 15 #[.agg x] W fun e w' => e = .returned (.bool true) ∧ Up W w') (h0 : x = stA s) (Q : Exit → Act → World → Prop) (hQ : Fin12 w (w.heap.size + 1) (scanP s (bl line)).1 (scanP s (bl line)).2 Q) :
    Code.wp Tryz.prog dAll Q ⟨((Value.agg x)::(Value.string line)::u2::u3::u4::u5::u6::u7::u8::u9::u10::u11::u12::u13::u14::u15::u16::u17::u18::u19::u20::u21::u22::u23::u24::u25::u26::u27::u28::u29::u30::u31::u32::u33::u34::u35::u36::u37::u38::u39::u40::u41::u42::u43::u44::u45::u46::u47::u48::u49::u50::u51::u52::u53::u54::u55::u56::u57::u58::u59::u60::u61::u62::u63::u64::u65::u66::u67::u68::u69::u70::u71::u72::u73::u74::u75::u76::u77::u78::u79::u80::u81::u82::u83::u84::u85::u86::u87::u88::u89::u90::u91::u92::u93::u94::u95::u96::u97::u98::u99::u100::u101::u102::u103::u104::u105::u106::u107::u108::u109::u110::u111::u112::u113::u114::u115::u116::u117::u118::u119::u120::u121::u122::u123::u124::u125::u126::u127::u128::u129::u130::u131::u132::u133::u134::u135::u136::u137::u138::u139::u140::u141::u142::u143::u144::u145::u146::u147::u148::u149::u150::u151::u152::u153::u154::u155::u156::u157::u158::u159::u160::u161::u162::u163::[]).toArray, []⟩ w := by
  conv => arg 2; whnf
  have HM := Lib.hid hM
  have HQ := Lib.hid hQ
  have HOK := Lib.hid hok
  have HSZ := Lib.hid hs
  have hl : ldV (.pointer (some ⟨w.heap.size, 0, none⟩)) (((w.alloc (.cells x TS)).alloc (.cells z0 TS)).alloc (.cells z0 TS)) = some (.agg x) := ldV_up ((Up.alloc _ _).trans (Up.alloc _ _)) (ldV_of hx (range_box w x TS))
  have ht : (((w.alloc (.cells x TS)).alloc (.cells z0 TS)).alloc (.cells z0 TS)).there (w.heap.size + 1 + 1) 0 82 := by have := there_box ((w.alloc (.cells x TS)).alloc (.cells z0 TS)) z0_is TS; rwa [World.size_alloc, World.size_alloc] at this
  have HT := Lib.hid ht
  have HL := Lib.hid hl
  have HX := Lib.hid hx
  have H0 := Lib.hid h0
  clear h0 ht hx
  clear hM hQ hok hs
  go_upto_region 4 with (go_at_call 15; ((with_reducible refine (HM.out _).mono ?_); rintro e w1 ⟨rfl, hu⟩; have HU1 := Lib.hid hu; have hl1 := ldV_up hu HL.out; have hst := stV_of HX.out (there_up hu HT.out); clear hu))
  refine piece12_4 _ _ _ _ _ _  ?_
  intro _ wx hwx
  subst hwx
  apply_assumption
  exact dbody_any w _ (w.heap.size + 1 + 1 + 1) (w.heap.size + 1) (w.heap.size + 1 + 1) s line HSZ.out HOK.out (by have := dcp_yes HOK.out HU1.out; rwa [← H0.out] at this) Q HQ.out 
set_option maxRecDepth 1000000 in
set_option maxHeartbeats 16000000 in
theorem refScan12 (W : World) (x : Array Value) (s : LSt) (hx : IsS x) (hc : Cnt x s) (line : ByteArray) (hs : (line.size : Int) ≤ 65536) :
    Calls Tryz.prog 5 #[.agg x, .string line] W (ScannedP W s (bl line)) := by
  have hq : Fin12 W (W.heap.size + 1) (scanP s (bl line)).1 (scanP s (bl line)).2 (bodyPost Tryz.prog Tryz.f5 (ScannedP W s (bl line))) := by
    intro y W' v' h4 h5 hd hld hrow hup
    refine bodyPost_ret (res_S2 rfl _ _ _ _ (by rw [Array.getD_eq_getD_getElem?, h5]; rfl) hld) hd ⟨v', ?_, hrow, hup⟩
    rw [Array.getD_eq_getD_getElem?, h4]
    rfl
  obtain ⟨V, hV, hxv⟩ := sv_of hx
  have hM : ∀ W', Calls Tryz.prog 15 #[.agg x] W' fun e w' => e = .returned (.bool (pyB V)) ∧ Up W' w' := fun W' => by rw [hxv]; exact may12_any W' V
  cases hB : pyB V with
  | true =>
    rw [hB] at hM
    have h0 : x = stA s := by
      rcases hc.2 with h | h
      · exact h
      · exact absurd (hxv ▸ pyB_true.1 hB : PyS x) h.1
    go_enter Tryz.func5, Tryz.ntmps5
    exact dall_yes W x s line hx hs hc.1 hM h0 _ hq 
  | false =>
    rw [hB] at hM
    have h0 : s = lst0 := by
      rcases hc.2 with h | h
      · exact absurd (pyB_true.2 (show PyS (svA V) from ⟨s, hc.1, hxv.symm.trans h⟩)) (by rw [hB]; decide)
      · exact h.2
    go_enter Tryz.func5, Tryz.ntmps5
    exact dall_no W x s line hx hs hc.1 hM h0 _ hq 
end Go.Proofs.YtmfcapbllbfjnaaGreatDoor
