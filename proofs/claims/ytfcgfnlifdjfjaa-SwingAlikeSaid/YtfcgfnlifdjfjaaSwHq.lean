/- Swing: rows by numbers. -/
import Derived.Test.YtfcgfnlifdjfjaaSwHz
import Derived.KernelRfl
namespace Go.Proofs.Ytfcgfnlifdjfjaa
open Go.Ab Go.RowKit
theorem row_128 (b : Int) (K' : Value → Bool) : rowRun b 128 K' = K' (.string (mkR 1 b)) := by kernel_rfl
theorem row_129 (b : Int) (K' : Value → Bool) : rowRun b 129 K' = K' (.string (mkR 2 b)) := by kernel_rfl
theorem row_130 (b : Int) (K' : Value → Bool) : rowRun b 130 K' = K' (.string (mkR 3 b)) := by kernel_rfl
theorem row_131 (b : Int) (K' : Value → Bool) : rowRun b 131 K' = K' (.string (mkR 4 b)) := by kernel_rfl
theorem row_132 (b : Int) (K' : Value → Bool) : rowRun b 132 K' = K' (.string (mkR 5 b)) := by kernel_rfl
theorem row_133 (b : Int) (K' : Value → Bool) : rowRun b 133 K' = K' (.string (mkR 6 b)) := by kernel_rfl
theorem row_134 (b : Int) (K' : Value → Bool) : rowRun b 134 K' = K' (.string (mkR 7 b)) := by kernel_rfl
theorem row_135 (b : Int) (K' : Value → Bool) : rowRun b 135 K' = K' (.string (mkR 8 b)) := by kernel_rfl
theorem row_136 (b : Int) (K' : Value → Bool) : rowRun b 136 K' = K' (.string (mkR 9 b)) := by kernel_rfl
theorem row_137 (b : Int) (K' : Value → Bool) : rowRun b 137 K' = K' (.string (mkR 10 b)) := by kernel_rfl
theorem row_138 (b : Int) (K' : Value → Bool) : rowRun b 138 K' = K' (.string (mkR 11 b)) := by kernel_rfl
theorem row_139 (b : Int) (K' : Value → Bool) : rowRun b 139 K' = K' (.string (mkR 12 b)) := by kernel_rfl
theorem row_140 (b : Int) (K' : Value → Bool) : rowRun b 140 K' = K' (.string (mkR 13 b)) := by kernel_rfl
theorem row_141 (b : Int) (K' : Value → Bool) : rowRun b 141 K' = K' (.string (mkR 14 b)) := by kernel_rfl
theorem row_142 (b : Int) (K' : Value → Bool) : rowRun b 142 K' = K' (.string (mkR 15 b)) := by kernel_rfl
theorem row_143 (b : Int) (K' : Value → Bool) : rowRun b 143 K' = K' (.string (mkR 16 b)) := by kernel_rfl
theorem row_144 (b : Int) (K' : Value → Bool) : rowRun b 144 K' = K' (.string (mkR 17 b)) := by kernel_rfl
theorem row_145 (b : Int) (K' : Value → Bool) : rowRun b 145 K' = K' (.string (mkR 18 b)) := by kernel_rfl
theorem row_146 (b : Int) (K' : Value → Bool) : rowRun b 146 K' = K' (.string (mkR 19 b)) := by kernel_rfl
theorem row_147 (b : Int) (K' : Value → Bool) : rowRun b 147 K' = K' (.string (mkR 20 b)) := by kernel_rfl
theorem row_148 (b : Int) (K' : Value → Bool) : rowRun b 148 K' = K' (.string (mkR 21 b)) := by kernel_rfl
theorem row_149 (b : Int) (K' : Value → Bool) : rowRun b 149 K' = K' (.string (mkR 22 b)) := by kernel_rfl
theorem row_150 (b : Int) (K' : Value → Bool) : rowRun b 150 K' = K' (.string (mkR 23 b)) := by kernel_rfl
theorem row_151 (b : Int) (K' : Value → Bool) : rowRun b 151 K' = K' (.string (mkR 24 b)) := by kernel_rfl
theorem row_152 (b : Int) (K' : Value → Bool) : rowRun b 152 K' = K' (.string (mkR 25 b)) := by kernel_rfl
theorem row_153 (b : Int) (K' : Value → Bool) : rowRun b 153 K' = K' (.string (mkR 26 b)) := by kernel_rfl
theorem row_154 (b : Int) (K' : Value → Bool) : rowRun b 154 K' = K' (.string (mkR 27 b)) := by kernel_rfl
theorem row_155 (b : Int) (K' : Value → Bool) : rowRun b 155 K' = K' (.string (mkR 28 b)) := by kernel_rfl
theorem row_156 (b : Int) (K' : Value → Bool) : rowRun b 156 K' = K' (.string (mkR 29 b)) := by kernel_rfl
theorem row_157 (b : Int) (K' : Value → Bool) : rowRun b 157 K' = K' (.string (mkR 30 b)) := by kernel_rfl
theorem row_158 (b : Int) (K' : Value → Bool) : rowRun b 158 K' = K' (.string (mkR 31 b)) := by kernel_rfl
theorem row_159 (b : Int) (K' : Value → Bool) : rowRun b 159 K' = K' (.string (mkR 32 b)) := by kernel_rfl
theorem row_160 (b : Int) (K' : Value → Bool) : rowRun b 160 K' = K' (.string (mkR 33 b)) := by kernel_rfl
theorem row_161 (b : Int) (K' : Value → Bool) : rowRun b 161 K' = K' (.string (mkR 34 b)) := by kernel_rfl
theorem row_162 (b : Int) (K' : Value → Bool) : rowRun b 162 K' = K' (.string (mkR 35 b)) := by kernel_rfl
theorem row_163 (b : Int) (K' : Value → Bool) : rowRun b 163 K' = K' (.string (mkR 36 b)) := by kernel_rfl
theorem row_164 (b : Int) (K' : Value → Bool) : rowRun b 164 K' = K' (.string (mkR 37 b)) := by kernel_rfl
theorem row_165 (b : Int) (K' : Value → Bool) : rowRun b 165 K' = K' (.string (mkR 38 b)) := by kernel_rfl
theorem row_166 (b : Int) (K' : Value → Bool) : rowRun b 166 K' = K' (.string (mkR 39 b)) := by kernel_rfl
theorem row_167 (b : Int) (K' : Value → Bool) : rowRun b 167 K' = K' (.string (mkR 40 b)) := by kernel_rfl
theorem row_168 (b : Int) (K' : Value → Bool) : rowRun b 168 K' = K' (.string (mkR 41 b)) := by kernel_rfl
theorem row_169 (b : Int) (K' : Value → Bool) : rowRun b 169 K' = K' (.string (mkR 42 b)) := by kernel_rfl
theorem row_170 (b : Int) (K' : Value → Bool) : rowRun b 170 K' = K' (.string (mkR 43 b)) := by kernel_rfl
theorem row_171 (b : Int) (K' : Value → Bool) : rowRun b 171 K' = K' (.string (mkR 44 b)) := by kernel_rfl
theorem row_172 (b : Int) (K' : Value → Bool) : rowRun b 172 K' = K' (.string (mkR 45 b)) := by kernel_rfl
theorem row_173 (b : Int) (K' : Value → Bool) : rowRun b 173 K' = K' (.string (mkR 46 b)) := by kernel_rfl
theorem row_174 (b : Int) (K' : Value → Bool) : rowRun b 174 K' = K' (.string (mkR 47 b)) := by kernel_rfl
theorem row_175 (b : Int) (K' : Value → Bool) : rowRun b 175 K' = K' (.string (mkR 48 b)) := by kernel_rfl
theorem row_176 (b : Int) (K' : Value → Bool) : rowRun b 176 K' = K' (.string (mkR 49 b)) := by kernel_rfl
theorem row_177 (b : Int) (K' : Value → Bool) : rowRun b 177 K' = K' (.string (mkR 50 b)) := by kernel_rfl
theorem row_178 (b : Int) (K' : Value → Bool) : rowRun b 178 K' = K' (.string (mkR 51 b)) := by kernel_rfl
theorem row_179 (b : Int) (K' : Value → Bool) : rowRun b 179 K' = K' (.string (mkR 52 b)) := by kernel_rfl
theorem row_180 (b : Int) (K' : Value → Bool) : rowRun b 180 K' = K' (.string (mkR 53 b)) := by kernel_rfl
theorem row_181 (b : Int) (K' : Value → Bool) : rowRun b 181 K' = K' (.string (mkR 54 b)) := by kernel_rfl
theorem row_182 (b : Int) (K' : Value → Bool) : rowRun b 182 K' = K' (.string (mkR 55 b)) := by kernel_rfl
theorem row_183 (b : Int) (K' : Value → Bool) : rowRun b 183 K' = K' (.string (mkR 56 b)) := by kernel_rfl
theorem row_184 (b : Int) (K' : Value → Bool) : rowRun b 184 K' = K' (.string (mkR 57 b)) := by kernel_rfl
theorem row_185 (b : Int) (K' : Value → Bool) : rowRun b 185 K' = K' (.string (mkR 58 b)) := by kernel_rfl
theorem row_186 (b : Int) (K' : Value → Bool) : rowRun b 186 K' = K' (.string (mkR 59 b)) := by kernel_rfl
theorem row_187 (b : Int) (K' : Value → Bool) : rowRun b 187 K' = K' (.string (mkR 60 b)) := by kernel_rfl
theorem row_188 (b : Int) (K' : Value → Bool) : rowRun b 188 K' = K' (.string (mkR 61 b)) := by kernel_rfl
theorem row_189 (b : Int) (K' : Value → Bool) : rowRun b 189 K' = K' (.string (mkR 62 b)) := by kernel_rfl
theorem row_190 (b : Int) (K' : Value → Bool) : rowRun b 190 K' = K' (.string (mkR 63 b)) := by kernel_rfl
theorem row_191 (b : Int) (K' : Value → Bool) : rowRun b 191 K' = K' (.string (mkR 64 b)) := by kernel_rfl
theorem rows_8 (b : Int) (r : Nat) (hr : r < 16) (K' : Value → Bool) : rowRun b (128 + r) K' = K' (.string (mkR ((128 + r) % 64 + 1) b)) :=
  match r, hr with
  | 0, _ => row_128 b K'
  | 1, _ => row_129 b K'
  | 2, _ => row_130 b K'
  | 3, _ => row_131 b K'
  | 4, _ => row_132 b K'
  | 5, _ => row_133 b K'
  | 6, _ => row_134 b K'
  | 7, _ => row_135 b K'
  | 8, _ => row_136 b K'
  | 9, _ => row_137 b K'
  | 10, _ => row_138 b K'
  | 11, _ => row_139 b K'
  | 12, _ => row_140 b K'
  | 13, _ => row_141 b K'
  | 14, _ => row_142 b K'
  | 15, _ => row_143 b K'
  | r + 16, hr => absurd hr (by omega)
theorem rows_9 (b : Int) (r : Nat) (hr : r < 16) (K' : Value → Bool) : rowRun b (144 + r) K' = K' (.string (mkR ((144 + r) % 64 + 1) b)) :=
  match r, hr with
  | 0, _ => row_144 b K'
  | 1, _ => row_145 b K'
  | 2, _ => row_146 b K'
  | 3, _ => row_147 b K'
  | 4, _ => row_148 b K'
  | 5, _ => row_149 b K'
  | 6, _ => row_150 b K'
  | 7, _ => row_151 b K'
  | 8, _ => row_152 b K'
  | 9, _ => row_153 b K'
  | 10, _ => row_154 b K'
  | 11, _ => row_155 b K'
  | 12, _ => row_156 b K'
  | 13, _ => row_157 b K'
  | 14, _ => row_158 b K'
  | 15, _ => row_159 b K'
  | r + 16, hr => absurd hr (by omega)
theorem rows_10 (b : Int) (r : Nat) (hr : r < 16) (K' : Value → Bool) : rowRun b (160 + r) K' = K' (.string (mkR ((160 + r) % 64 + 1) b)) :=
  match r, hr with
  | 0, _ => row_160 b K'
  | 1, _ => row_161 b K'
  | 2, _ => row_162 b K'
  | 3, _ => row_163 b K'
  | 4, _ => row_164 b K'
  | 5, _ => row_165 b K'
  | 6, _ => row_166 b K'
  | 7, _ => row_167 b K'
  | 8, _ => row_168 b K'
  | 9, _ => row_169 b K'
  | 10, _ => row_170 b K'
  | 11, _ => row_171 b K'
  | 12, _ => row_172 b K'
  | 13, _ => row_173 b K'
  | 14, _ => row_174 b K'
  | 15, _ => row_175 b K'
  | r + 16, hr => absurd hr (by omega)
theorem rows_11 (b : Int) (r : Nat) (hr : r < 16) (K' : Value → Bool) : rowRun b (176 + r) K' = K' (.string (mkR ((176 + r) % 64 + 1) b)) :=
  match r, hr with
  | 0, _ => row_176 b K'
  | 1, _ => row_177 b K'
  | 2, _ => row_178 b K'
  | 3, _ => row_179 b K'
  | 4, _ => row_180 b K'
  | 5, _ => row_181 b K'
  | 6, _ => row_182 b K'
  | 7, _ => row_183 b K'
  | 8, _ => row_184 b K'
  | 9, _ => row_185 b K'
  | 10, _ => row_186 b K'
  | 11, _ => row_187 b K'
  | 12, _ => row_188 b K'
  | 13, _ => row_189 b K'
  | 14, _ => row_190 b K'
  | 15, _ => row_191 b K'
  | r + 16, hr => absurd hr (by omega)
end Go.Proofs.Ytfcgfnlifdjfjaa
namespace Go.Proofs.Ytfcgfnlifdjfjaa
open Go.Ab Go.RowKit
theorem row_192 (b : Int) (K' : Value → Bool) : rowRun b 192 K' = K' (.string (mkR 1 b)) := by kernel_rfl
theorem row_193 (b : Int) (K' : Value → Bool) : rowRun b 193 K' = K' (.string (mkR 2 b)) := by kernel_rfl
theorem row_194 (b : Int) (K' : Value → Bool) : rowRun b 194 K' = K' (.string (mkR 3 b)) := by kernel_rfl
theorem row_195 (b : Int) (K' : Value → Bool) : rowRun b 195 K' = K' (.string (mkR 4 b)) := by kernel_rfl
theorem row_196 (b : Int) (K' : Value → Bool) : rowRun b 196 K' = K' (.string (mkR 5 b)) := by kernel_rfl
theorem row_197 (b : Int) (K' : Value → Bool) : rowRun b 197 K' = K' (.string (mkR 6 b)) := by kernel_rfl
theorem row_198 (b : Int) (K' : Value → Bool) : rowRun b 198 K' = K' (.string (mkR 7 b)) := by kernel_rfl
theorem row_199 (b : Int) (K' : Value → Bool) : rowRun b 199 K' = K' (.string (mkR 8 b)) := by kernel_rfl
theorem row_200 (b : Int) (K' : Value → Bool) : rowRun b 200 K' = K' (.string (mkR 9 b)) := by kernel_rfl
theorem row_201 (b : Int) (K' : Value → Bool) : rowRun b 201 K' = K' (.string (mkR 10 b)) := by kernel_rfl
theorem row_202 (b : Int) (K' : Value → Bool) : rowRun b 202 K' = K' (.string (mkR 11 b)) := by kernel_rfl
theorem row_203 (b : Int) (K' : Value → Bool) : rowRun b 203 K' = K' (.string (mkR 12 b)) := by kernel_rfl
theorem row_204 (b : Int) (K' : Value → Bool) : rowRun b 204 K' = K' (.string (mkR 13 b)) := by kernel_rfl
theorem row_205 (b : Int) (K' : Value → Bool) : rowRun b 205 K' = K' (.string (mkR 14 b)) := by kernel_rfl
theorem row_206 (b : Int) (K' : Value → Bool) : rowRun b 206 K' = K' (.string (mkR 15 b)) := by kernel_rfl
theorem row_207 (b : Int) (K' : Value → Bool) : rowRun b 207 K' = K' (.string (mkR 16 b)) := by kernel_rfl
theorem row_208 (b : Int) (K' : Value → Bool) : rowRun b 208 K' = K' (.string (mkR 17 b)) := by kernel_rfl
theorem row_209 (b : Int) (K' : Value → Bool) : rowRun b 209 K' = K' (.string (mkR 18 b)) := by kernel_rfl
theorem row_210 (b : Int) (K' : Value → Bool) : rowRun b 210 K' = K' (.string (mkR 19 b)) := by kernel_rfl
theorem row_211 (b : Int) (K' : Value → Bool) : rowRun b 211 K' = K' (.string (mkR 20 b)) := by kernel_rfl
theorem row_212 (b : Int) (K' : Value → Bool) : rowRun b 212 K' = K' (.string (mkR 21 b)) := by kernel_rfl
theorem row_213 (b : Int) (K' : Value → Bool) : rowRun b 213 K' = K' (.string (mkR 22 b)) := by kernel_rfl
theorem row_214 (b : Int) (K' : Value → Bool) : rowRun b 214 K' = K' (.string (mkR 23 b)) := by kernel_rfl
theorem row_215 (b : Int) (K' : Value → Bool) : rowRun b 215 K' = K' (.string (mkR 24 b)) := by kernel_rfl
theorem row_216 (b : Int) (K' : Value → Bool) : rowRun b 216 K' = K' (.string (mkR 25 b)) := by kernel_rfl
theorem row_217 (b : Int) (K' : Value → Bool) : rowRun b 217 K' = K' (.string (mkR 26 b)) := by kernel_rfl
theorem row_218 (b : Int) (K' : Value → Bool) : rowRun b 218 K' = K' (.string (mkR 27 b)) := by kernel_rfl
theorem row_219 (b : Int) (K' : Value → Bool) : rowRun b 219 K' = K' (.string (mkR 28 b)) := by kernel_rfl
theorem row_220 (b : Int) (K' : Value → Bool) : rowRun b 220 K' = K' (.string (mkR 29 b)) := by kernel_rfl
theorem row_221 (b : Int) (K' : Value → Bool) : rowRun b 221 K' = K' (.string (mkR 30 b)) := by kernel_rfl
theorem row_222 (b : Int) (K' : Value → Bool) : rowRun b 222 K' = K' (.string (mkR 31 b)) := by kernel_rfl
theorem row_223 (b : Int) (K' : Value → Bool) : rowRun b 223 K' = K' (.string (mkR 32 b)) := by kernel_rfl
theorem row_224 (b : Int) (K' : Value → Bool) : rowRun b 224 K' = K' (.string (mkR 33 b)) := by kernel_rfl
theorem row_225 (b : Int) (K' : Value → Bool) : rowRun b 225 K' = K' (.string (mkR 34 b)) := by kernel_rfl
theorem row_226 (b : Int) (K' : Value → Bool) : rowRun b 226 K' = K' (.string (mkR 35 b)) := by kernel_rfl
theorem row_227 (b : Int) (K' : Value → Bool) : rowRun b 227 K' = K' (.string (mkR 36 b)) := by kernel_rfl
theorem row_228 (b : Int) (K' : Value → Bool) : rowRun b 228 K' = K' (.string (mkR 37 b)) := by kernel_rfl
theorem row_229 (b : Int) (K' : Value → Bool) : rowRun b 229 K' = K' (.string (mkR 38 b)) := by kernel_rfl
theorem row_230 (b : Int) (K' : Value → Bool) : rowRun b 230 K' = K' (.string (mkR 39 b)) := by kernel_rfl
theorem row_231 (b : Int) (K' : Value → Bool) : rowRun b 231 K' = K' (.string (mkR 40 b)) := by kernel_rfl
theorem row_232 (b : Int) (K' : Value → Bool) : rowRun b 232 K' = K' (.string (mkR 41 b)) := by kernel_rfl
theorem row_233 (b : Int) (K' : Value → Bool) : rowRun b 233 K' = K' (.string (mkR 42 b)) := by kernel_rfl
theorem row_234 (b : Int) (K' : Value → Bool) : rowRun b 234 K' = K' (.string (mkR 43 b)) := by kernel_rfl
theorem row_235 (b : Int) (K' : Value → Bool) : rowRun b 235 K' = K' (.string (mkR 44 b)) := by kernel_rfl
theorem row_236 (b : Int) (K' : Value → Bool) : rowRun b 236 K' = K' (.string (mkR 45 b)) := by kernel_rfl
theorem row_237 (b : Int) (K' : Value → Bool) : rowRun b 237 K' = K' (.string (mkR 46 b)) := by kernel_rfl
theorem row_238 (b : Int) (K' : Value → Bool) : rowRun b 238 K' = K' (.string (mkR 47 b)) := by kernel_rfl
theorem row_239 (b : Int) (K' : Value → Bool) : rowRun b 239 K' = K' (.string (mkR 48 b)) := by kernel_rfl
theorem row_240 (b : Int) (K' : Value → Bool) : rowRun b 240 K' = K' (.string (mkR 49 b)) := by kernel_rfl
theorem row_241 (b : Int) (K' : Value → Bool) : rowRun b 241 K' = K' (.string (mkR 50 b)) := by kernel_rfl
theorem row_242 (b : Int) (K' : Value → Bool) : rowRun b 242 K' = K' (.string (mkR 51 b)) := by kernel_rfl
theorem row_243 (b : Int) (K' : Value → Bool) : rowRun b 243 K' = K' (.string (mkR 52 b)) := by kernel_rfl
theorem row_244 (b : Int) (K' : Value → Bool) : rowRun b 244 K' = K' (.string (mkR 53 b)) := by kernel_rfl
theorem row_245 (b : Int) (K' : Value → Bool) : rowRun b 245 K' = K' (.string (mkR 54 b)) := by kernel_rfl
theorem row_246 (b : Int) (K' : Value → Bool) : rowRun b 246 K' = K' (.string (mkR 55 b)) := by kernel_rfl
theorem row_247 (b : Int) (K' : Value → Bool) : rowRun b 247 K' = K' (.string (mkR 56 b)) := by kernel_rfl
theorem row_248 (b : Int) (K' : Value → Bool) : rowRun b 248 K' = K' (.string (mkR 57 b)) := by kernel_rfl
theorem row_249 (b : Int) (K' : Value → Bool) : rowRun b 249 K' = K' (.string (mkR 58 b)) := by kernel_rfl
theorem row_250 (b : Int) (K' : Value → Bool) : rowRun b 250 K' = K' (.string (mkR 59 b)) := by kernel_rfl
theorem row_251 (b : Int) (K' : Value → Bool) : rowRun b 251 K' = K' (.string (mkR 60 b)) := by kernel_rfl
theorem row_252 (b : Int) (K' : Value → Bool) : rowRun b 252 K' = K' (.string (mkR 61 b)) := by kernel_rfl
theorem row_253 (b : Int) (K' : Value → Bool) : rowRun b 253 K' = K' (.string (mkR 62 b)) := by kernel_rfl
theorem row_254 (b : Int) (K' : Value → Bool) : rowRun b 254 K' = K' (.string (mkR 63 b)) := by kernel_rfl
theorem row_255 (b : Int) (K' : Value → Bool) : rowRun b 255 K' = K' (.string (mkR 64 b)) := by kernel_rfl
theorem rows_12 (b : Int) (r : Nat) (hr : r < 16) (K' : Value → Bool) : rowRun b (192 + r) K' = K' (.string (mkR ((192 + r) % 64 + 1) b)) :=
  match r, hr with
  | 0, _ => row_192 b K'
  | 1, _ => row_193 b K'
  | 2, _ => row_194 b K'
  | 3, _ => row_195 b K'
  | 4, _ => row_196 b K'
  | 5, _ => row_197 b K'
  | 6, _ => row_198 b K'
  | 7, _ => row_199 b K'
  | 8, _ => row_200 b K'
  | 9, _ => row_201 b K'
  | 10, _ => row_202 b K'
  | 11, _ => row_203 b K'
  | 12, _ => row_204 b K'
  | 13, _ => row_205 b K'
  | 14, _ => row_206 b K'
  | 15, _ => row_207 b K'
  | r + 16, hr => absurd hr (by omega)
theorem rows_13 (b : Int) (r : Nat) (hr : r < 16) (K' : Value → Bool) : rowRun b (208 + r) K' = K' (.string (mkR ((208 + r) % 64 + 1) b)) :=
  match r, hr with
  | 0, _ => row_208 b K'
  | 1, _ => row_209 b K'
  | 2, _ => row_210 b K'
  | 3, _ => row_211 b K'
  | 4, _ => row_212 b K'
  | 5, _ => row_213 b K'
  | 6, _ => row_214 b K'
  | 7, _ => row_215 b K'
  | 8, _ => row_216 b K'
  | 9, _ => row_217 b K'
  | 10, _ => row_218 b K'
  | 11, _ => row_219 b K'
  | 12, _ => row_220 b K'
  | 13, _ => row_221 b K'
  | 14, _ => row_222 b K'
  | 15, _ => row_223 b K'
  | r + 16, hr => absurd hr (by omega)
theorem rows_14 (b : Int) (r : Nat) (hr : r < 16) (K' : Value → Bool) : rowRun b (224 + r) K' = K' (.string (mkR ((224 + r) % 64 + 1) b)) :=
  match r, hr with
  | 0, _ => row_224 b K'
  | 1, _ => row_225 b K'
  | 2, _ => row_226 b K'
  | 3, _ => row_227 b K'
  | 4, _ => row_228 b K'
  | 5, _ => row_229 b K'
  | 6, _ => row_230 b K'
  | 7, _ => row_231 b K'
  | 8, _ => row_232 b K'
  | 9, _ => row_233 b K'
  | 10, _ => row_234 b K'
  | 11, _ => row_235 b K'
  | 12, _ => row_236 b K'
  | 13, _ => row_237 b K'
  | 14, _ => row_238 b K'
  | 15, _ => row_239 b K'
  | r + 16, hr => absurd hr (by omega)
theorem rows_15 (b : Int) (r : Nat) (hr : r < 16) (K' : Value → Bool) : rowRun b (240 + r) K' = K' (.string (mkR ((240 + r) % 64 + 1) b)) :=
  match r, hr with
  | 0, _ => row_240 b K'
  | 1, _ => row_241 b K'
  | 2, _ => row_242 b K'
  | 3, _ => row_243 b K'
  | 4, _ => row_244 b K'
  | 5, _ => row_245 b K'
  | 6, _ => row_246 b K'
  | 7, _ => row_247 b K'
  | 8, _ => row_248 b K'
  | 9, _ => row_249 b K'
  | 10, _ => row_250 b K'
  | 11, _ => row_251 b K'
  | 12, _ => row_252 b K'
  | 13, _ => row_253 b K'
  | 14, _ => row_254 b K'
  | 15, _ => row_255 b K'
  | r + 16, hr => absurd hr (by omega)
end Go.Proofs.Ytfcgfnlifdjfjaa
