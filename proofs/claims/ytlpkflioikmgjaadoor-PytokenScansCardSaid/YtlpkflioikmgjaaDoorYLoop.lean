/- The loop of the document's Scan. -/
import Derived.Test.YtlpkflioikmgjaaDoorYRnd
import Derived.Test.YtlpkflioikmgjaaDoorYCaseJ
namespace Go.Proofs.YtlpkflioikmgjaaDoor
open Go.RowKit

def mu11 (t : ByteArray) (a : Act) : Nat := match (a.tmps[11]? : Option Value) with
  | some (Value.int _ n) => t.size - n.toNat
  | _ => 0
theorem mu_fr {a : Act} {t : ByteArray} {bo br p : Nat} (h : Fr a t bo br p) : mu11 t a = t.size - p := by
  unfold mu11
  rw [h.s11]
  show t.size - (p : Int).toNat = _
  rw [Int.toNat_natCast]
theorem list_all {l : List Value} {n : Nat} (h : l.length = n) : l = (List.range n).map fun i => l.getD i undef := by
  apply List.ext_getElem
  · simp [h]
  · intro i h1 h2
    simp [List.getElem?_eq_getElem h1]
set_option maxRecDepth 1000000 in
/-- The frame, written out. -/
theorem fr_open {a : Act} {t : ByteArray} {bo br p : Nat} (h : Fr a t bo br p) : ∃ f : Nat → Value, a = ⟨(f 0 :: f 1 :: f 2 :: f 3 :: f 4 :: f 5 :: f 6 :: f 7 :: (Value.pointer (some ⟨br, 0, none⟩)) :: (Value.string t) :: (Value.pointer (some ⟨bo, 0, none⟩)) :: (Value.int .i64 (p : Nat)) :: f 12 :: f 13 :: f 14 :: f 15 :: f 16 :: f 17 :: f 18 :: f 19 :: f 20 :: f 21 :: f 22 :: f 23 :: f 24 :: f 25 :: f 26 :: f 27 :: f 28 :: f 29 :: f 30 :: f 31 :: f 32 :: f 33 :: f 34 :: f 35 :: f 36 :: f 37 :: f 38 :: f 39 :: f 40 :: f 41 :: f 42 :: f 43 :: f 44 :: f 45 :: f 46 :: f 47 :: f 48 :: f 49 :: f 50 :: f 51 :: f 52 :: f 53 :: f 54 :: f 55 :: f 56 :: f 57 :: f 58 :: f 59 :: f 60 :: f 61 :: f 62 :: f 63 :: f 64 :: f 65 :: f 66 :: f 67 :: f 68 :: f 69 :: f 70 :: f 71 :: f 72 :: f 73 :: f 74 :: f 75 :: f 76 :: f 77 :: f 78 :: f 79 :: f 80 :: f 81 :: f 82 :: f 83 :: f 84 :: f 85 :: f 86 :: f 87 :: f 88 :: f 89 :: f 90 :: f 91 :: f 92 :: f 93 :: f 94 :: f 95 :: f 96 :: f 97 :: f 98 :: f 99 :: f 100 :: f 101 :: f 102 :: f 103 :: f 104 :: f 105 :: f 106 :: f 107 :: f 108 :: f 109 :: f 110 :: f 111 :: f 112 :: f 113 :: f 114 :: f 115 :: f 116 :: f 117 :: f 118 :: f 119 :: f 120 :: f 121 :: f 122 :: f 123 :: f 124 :: f 125 :: f 126 :: f 127 :: f 128 :: f 129 :: f 130 :: f 131 :: f 132 :: f 133 :: f 134 :: f 135 :: f 136 :: f 137 :: f 138 :: f 139 :: f 140 :: f 141 :: f 142 :: f 143 :: f 144 :: f 145 :: f 146 :: f 147 :: f 148 :: f 149 :: f 150 :: f 151 :: f 152 :: f 153 :: f 154 :: f 155 :: f 156 :: f 157 :: f 158 :: f 159 :: f 160 :: f 161 :: f 162 :: f 163 :: f 164 :: f 165 :: f 166 :: f 167 :: f 168 :: f 169 :: f 170 :: f 171 :: f 172 :: f 173 :: f 174 :: f 175 :: f 176 :: f 177 :: f 178 :: f 179 :: f 180 :: f 181 :: f 182 :: f 183 :: f 184 :: f 185 :: f 186 :: f 187 :: f 188 :: f 189 :: f 190 :: f 191 :: f 192 :: f 193 :: f 194 :: f 195 :: f 196 :: f 197 :: f 198 :: f 199 :: f 200 :: f 201 :: f 202 :: f 203 :: f 204 :: f 205 :: f 206 :: f 207 :: f 208 :: f 209 :: f 210 :: f 211 :: f 212 :: f 213 :: f 214 :: f 215 :: f 216 :: f 217 :: f 218 :: f 219 :: f 220 :: f 221 :: f 222 :: f 223 :: f 224 :: f 225 :: f 226 :: f 227 :: f 228 :: f 229 :: f 230 :: f 231 :: f 232 :: f 233 :: f 234 :: f 235 :: f 236 :: f 237 :: f 238 :: f 239 :: f 240 :: f 241 :: f 242 :: f 243 :: f 244 :: f 245 :: f 246 :: f 247 :: f 248 :: f 249 :: f 250 :: f 251 :: f 252 :: f 253 :: f 254 :: f 255 :: f 256 :: f 257 :: f 258 :: f 259 :: f 260 :: f 261 :: []).toArray, []⟩ := by
  obtain ⟨tm, df⟩ := a
  have hd : df = [] := h.defs
  subst hd
  have hl : tm.toList.length = 262 := h.size
  have h0 := list_all hl
  have g : ∀ (i : Nat) (x : Value), tm[i]? = some x → tm.toList.getD i undef = x := fun i x hx => by
    rw [List.getD_eq_getElem?_getD, Array.getElem?_toList, hx]
    rfl
  have h8 := g 8 _ h.s8
  have h9 := g 9 _ h.s9
  have h10 := g 10 _ h.s10
  have h11 := g 11 _ h.s11
  generalize tm.toList.getD = f at h0 h8 h9 h10 h11
  refine ⟨fun i => f i undef, ?_⟩
  rw [← h8, ← h9, ← h10, ← h11]
  have h1 : tm = tm.toList.toArray := by simp
  rw [h1, h0]
  rfl
theorem loop11 (w0 : World) (t : ByteArray) (bo br : Nat) (R : List PEv × PSt) (hs : (t.size : Int) ≤ 1000000) (Q0 : Exit → Act → World → Prop)
    (hQ : ∀ (a : Act) (W' : World) (v' : Value) (p' : Nat), Fr a t bo br p' → OutAt w0 W' bo br v' R.1 R.2 → Q0 (.exit 0) a W') (a : Act) (W : World) (p : Nat) (v : Value) (es : List PEv) (st : PSt) (hF : Fr a t bo br p) (hO : OutAt w0 W bo br v es st) (hR : Rest t p es st R) (hst : StOk st) (hl : es.length ≤ p) :
    Code.wp Tryd.prog (Code.loop scanBody) Q0 a W := by
  refine wp_loop (fun a w => ∃ p v es st, Fr a t bo br p ∧ OutAt w0 w bo br v es st ∧ Rest t p es st R ∧ StOk st ∧ es.length ≤ p) (fun a _ => mu11 t a) ⟨p, v, es, st, hF, hO, hR, hst, hl⟩ ?_
  clear hF hO hR hst hl
  clear p v es st a W
  rintro a w1 ⟨p, v, es, st, hF, hO, hR, hst, hl⟩
  have hm := mu_fr hF
  by_cases hlt : p < t.size
  · obtain ⟨f, rfl⟩ := fr_open hF
    exact round11 w0 w1 t p bo br v es st R hlt hs hst hl hR (Lib.hid hO) _ _ (fun a' W' v' p' es' st' hF' hO' hN => ⟨⟨p', v', es', st', hF', hO', hN.rest, hN.ok, hN.few⟩, by rw [mu_fr hF', hm]; have := hN.lt; have := hN.le; omega⟩) (f 0) (f 1) (f 2) (f 3) (f 4) (f 5) (f 6) (f 7) (f 12) (f 13) (f 14) (f 15) (f 16) (f 17) (f 18) (f 19) (f 20) (f 21) (f 22) (f 23) (f 24) (f 25) (f 26) (f 27) (f 28) (f 29) (f 30) (f 31) (f 32) (f 33) (f 34) (f 35) (f 36) (f 37) (f 38) (f 39) (f 40) (f 41) (f 42) (f 43) (f 44) (f 45) (f 46) (f 47) (f 48) (f 49) (f 50) (f 51) (f 52) (f 53) (f 54) (f 55) (f 56) (f 57) (f 58) (f 59) (f 60) (f 61) (f 62) (f 63) (f 64) (f 65) (f 66) (f 67) (f 68) (f 69) (f 70) (f 71) (f 72) (f 73) (f 74) (f 75) (f 76) (f 77) (f 78) (f 79) (f 80) (f 81) (f 82) (f 83) (f 84) (f 85) (f 86) (f 87) (f 88) (f 89) (f 90) (f 91) (f 92) (f 93) (f 94) (f 95) (f 96) (f 97) (f 98) (f 99) (f 100) (f 101) (f 102) (f 103) (f 104) (f 105) (f 106) (f 107) (f 108) (f 109) (f 110) (f 111) (f 112) (f 113) (f 114) (f 115) (f 116) (f 117) (f 118) (f 119) (f 120) (f 121) (f 122) (f 123) (f 124) (f 125) (f 126) (f 127) (f 128) (f 129) (f 130) (f 131) (f 132) (f 133) (f 134) (f 135) (f 136) (f 137) (f 138) (f 139) (f 140) (f 141) (f 142) (f 143) (f 144) (f 145) (f 146) (f 147) (f 148) (f 149) (f 150) (f 151) (f 152) (f 153) (f 154) (f 155) (f 156) (f 157) (f 158) (f 159) (f 160) (f 161) (f 162) (f 163) (f 164) (f 165) (f 166) (f 167) (f 168) (f 169) (f 170) (f 171) (f 172) (f 173) (f 174) (f 175) (f 176) (f 177) (f 178) (f 179) (f 180) (f 181) (f 182) (f 183) (f 184) (f 185) (f 186) (f 187) (f 188) (f 189) (f 190) (f 191) (f 192) (f 193) (f 194) (f 195) (f 196) (f 197) (f 198) (f 199) (f 200) (f 201) (f 202) (f 203) (f 204) (f 205) (f 206) (f 207) (f 208) (f 209) (f 210) (f 211) (f 212) (f 213) (f 214) (f 215) (f 216) (f 217) (f 218) (f 219) (f 220) (f 221) (f 222) (f 223) (f 224) (f 225) (f 226) (f 227) (f 228) (f 229) (f 230) (f 231) (f 232) (f 233) (f 234) (f 235) (f 236) (f 237) (f 238) (f 239) (f 240) (f 241) (f 242) (f 243) (f 244) (f 245) (f 246) (f 247) (f 248) (f 249) (f 250) (f 251) (f 252) (f 253) (f 254) (f 255) (f 256) (f 257) (f 258) (f 259) (f 260) (f 261)
  · have hRR : (es, st) = R := by
      unfold Rest at hR
      rw [bl_end (by omega), scanC_nil, List.append_nil] at hR
      exact hR
    subst hRR
    obtain ⟨f, rfl⟩ := fr_open hF
    exact case_end w1 t p bo br (by omega) _ _ (fun a hFa => hQ a w1 v p hFa hO) (f 0) (f 1) (f 2) (f 3) (f 4) (f 5) (f 6) (f 7) (f 12) (f 13) (f 14) (f 15) (f 16) (f 17) (f 18) (f 19) (f 20) (f 21) (f 22) (f 23) (f 24) (f 25) (f 26) (f 27) (f 28) (f 29) (f 30) (f 31) (f 32) (f 33) (f 34) (f 35) (f 36) (f 37) (f 38) (f 39) (f 40) (f 41) (f 42) (f 43) (f 44) (f 45) (f 46) (f 47) (f 48) (f 49) (f 50) (f 51) (f 52) (f 53) (f 54) (f 55) (f 56) (f 57) (f 58) (f 59) (f 60) (f 61) (f 62) (f 63) (f 64) (f 65) (f 66) (f 67) (f 68) (f 69) (f 70) (f 71) (f 72) (f 73) (f 74) (f 75) (f 76) (f 77) (f 78) (f 79) (f 80) (f 81) (f 82) (f 83) (f 84) (f 85) (f 86) (f 87) (f 88) (f 89) (f 90) (f 91) (f 92) (f 93) (f 94) (f 95) (f 96) (f 97) (f 98) (f 99) (f 100) (f 101) (f 102) (f 103) (f 104) (f 105) (f 106) (f 107) (f 108) (f 109) (f 110) (f 111) (f 112) (f 113) (f 114) (f 115) (f 116) (f 117) (f 118) (f 119) (f 120) (f 121) (f 122) (f 123) (f 124) (f 125) (f 126) (f 127) (f 128) (f 129) (f 130) (f 131) (f 132) (f 133) (f 134) (f 135) (f 136) (f 137) (f 138) (f 139) (f 140) (f 141) (f 142) (f 143) (f 144) (f 145) (f 146) (f 147) (f 148) (f 149) (f 150) (f 151) (f 152) (f 153) (f 154) (f 155) (f 156) (f 157) (f 158) (f 159) (f 160) (f 161) (f 162) (f 163) (f 164) (f 165) (f 166) (f 167) (f 168) (f 169) (f 170) (f 171) (f 172) (f 173) (f 174) (f 175) (f 176) (f 177) (f 178) (f 179) (f 180) (f 181) (f 182) (f 183) (f 184) (f 185) (f 186) (f 187) (f 188) (f 189) (f 190) (f 191) (f 192) (f 193) (f 194) (f 195) (f 196) (f 197) (f 198) (f 199) (f 200) (f 201) (f 202) (f 203) (f 204) (f 205) (f 206) (f 207) (f 208) (f 209) (f 210) (f 211) (f 212) (f 213) (f 214) (f 215) (f 216) (f 217) (f 218) (f 219) (f 220) (f 221) (f 222) (f 223) (f 224) (f 225) (f 226) (f 227) (f 228) (f 229) (f 230) (f 231) (f 232) (f 233) (f 234) (f 235) (f 236) (f 237) (f 238) (f 239) (f 240) (f 241) (f 242) (f 243) (f 244) (f 245) (f 246) (f 247) (f 248) (f 249) (f 250) (f 251) (f 252) (f 253) (f 254) (f 255) (f 256) (f 257) (f 258) (f 259) (f 260) (f 261)
end Go.Proofs.YtlpkflioikmgjaaDoor
