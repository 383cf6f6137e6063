/-
  Several texts in one: LxShelf, LxJoin, PsBlankT, PsBlank.
-/
import Derived.Shelf.Strings.Builder1
import Derived.Shelf.Strings.Builder2
import Derived.Shelf.Strings.OnBuilder
import Derived.Shelf.Strings.Prefix
import Derived.Test.YtggkehncpkfakaaDoorProg
import Derived.Test.YtggkehncpkfakaaDoorLxTg
import Derived.Test.YtggkehncpkfakaaDoorMgApi
import Derived.Test.YtggkehncpkfakaaDoorMgLoc
import Derived.Test.YtggkehncpkfakaaDoorMgEx

/-
  The library's contracts that this layer leans on, at this program.
-/
namespace Go.Proofs.YtggkehncpkfakaaDoor.Fm
open Go.Shelf
def lays169_ren : Go.Shelf.Ren := ⟨fun | 169 => 54 | n => n, fun | 70 => 100 | 9 => 9 | 0 => 0 | 72 => 102 | 37 => 36 | 127 => 133 | 3 => 3 | 5 => 5 | n => n, fun | n => n⟩
theorem lays169 : Go.Proofs.Lays.n169 Tryd.prog lays169_ren := {
  mixed := by kernel_rfl
  f169 := Tryd.func54.trans (congrArg some (by kernel_rfl))
  t0 := Tryd.underlying0
  a0 := Tryd.isAgg0
  z0 := Tryd.sizeOf0
  v0 := Tryd.zeroValue0
  t3 := Tryd.underlying3
  a3 := Tryd.isAgg3
  z3 := Tryd.sizeOf3
  v3 := Tryd.zeroValue3
  t9 := Tryd.underlying9
  a9 := Tryd.isAgg9
  z9 := Tryd.sizeOf9
  v9 := Tryd.zeroValue9
  t37 := Tryd.underlying36
  a37 := Tryd.isAgg36
  z37 := Tryd.sizeOf36
  v37 := Tryd.zeroValue36
  t70 := Tryd.underlying100
  a70 := Tryd.isAgg100
  z70 := Tryd.sizeOf100
  v70 := Tryd.zeroValue100
  t72 := Tryd.underlying102
  a72 := Tryd.isAgg102
  z72 := Tryd.sizeOf102
  v72 := Tryd.zeroValue102
  t127 := Tryd.underlying133
  a127 := Tryd.isAgg133
  z127 := Tryd.sizeOf133
  v127 := Tryd.zeroValue133 }
theorem Builder_Extra_169 : Builder.Extra Tryd.prog lays169_ren := {
  sizeBuilder := by kernel_rfl
  liesBuilder := by kernel_rfl
  t5 := Tryd.underlying5
  a5 := Tryd.isAgg5
  z5 := Tryd.sizeOf5
  v5 := Tryd.zeroValue5
  infoByte := by kernel_rfl
  cellsByte := by kernel_rfl
  sizeByte := by kernel_rfl
  neB5 := by decide }
open Go.RowKit in
/-- (*strings.Builder).String: "String returns the accumulated string.": OF A BUILDER THAT HOLDS AT LEAST ONE BYTE. ✋ THE MODEL FREEZES THOSE BYTES IN THE BUFFER (unsafe.String): a later write INTO them ends the model's run without an answer; a later append BEHIND them goes on. The statement's order of evaluation is drawn: one draw. (LAID: no walk: one application.) -/
theorem Builder_String (B b : Nat) (l : List UInt8) (w : World) (h : Lib.IsBuilder 102 5 B b (Lib.byteCells l) w) (h0 : l ≠ []) :
    Calls Tryd.prog 54 #[.pointer (some ⟨b, 0, none⟩)] w fun e w' => e = .returned (.string ⟨l.toArray⟩) ∧ Below B w w' := Any.Builder_String lays169 Builder_Extra_169 B b l w h h0
open Go.RowKit in
/-- (*strings.Builder).String OF A BUILDER THAT HOLDS NO BYTE: the empty string. (Its buffer is nil, or a row of which it has taken nothing yet; where that row has NO capacity the model lays one new block for unsafe.SliceData's 'some address'.) One draw. (LAID: no walk: one application.) -/
theorem Builder_String_empty (B b : Nat) (w : World) (h : Lib.IsBuilder 102 5 B b [] w) (hBw : B ≤ w.heap.size) :
    Calls Tryd.prog 54 #[.pointer (some ⟨b, 0, none⟩)] w fun e w' => e = .returned (.string ⟨#[]⟩) ∧ Below B w w' := Any.Builder_String_empty lays169 Builder_Extra_169 B b w h hBw
open Go.RowKit in
/-- (*strings.Builder).String: "String returns the accumulated string.": WHATEVER THE BUILDER HOLDS. (LAID: no walk: one application.) -/
theorem Builder_String_any (B b : Nat) (l : List UInt8) (w : World) (h : Lib.IsBuilder 102 5 B b (Lib.byteCells l) w) (hBw : B ≤ w.heap.size) :
    Calls Tryd.prog 54 #[.pointer (some ⟨b, 0, none⟩)] w fun e w' => e = .returned (.string ⟨l.toArray⟩) ∧ Below B w w' := Any.Builder_String_any lays169 Builder_Extra_169 B b l w h hBw
def lays241_ren : Go.Shelf.Ren := ⟨fun | 241 => 85 | 277 => 109 | n => n, fun | 70 => 100 | 3 => 3 | 0 => 0 | 72 => 102 | 37 => 36 | 5 => 5 | n => n, fun | n => n⟩
theorem lays241 : Go.Proofs.Lays.n241 Tryd.prog lays241_ren := {
  mixed := by kernel_rfl
  f241 := Tryd.func85.trans (congrArg some (by kernel_rfl))
  f277 := Tryd.func109.trans (congrArg some (by kernel_rfl))
  t0 := Tryd.underlying0
  a0 := Tryd.isAgg0
  z0 := Tryd.sizeOf0
  v0 := Tryd.zeroValue0
  t3 := Tryd.underlying3
  a3 := Tryd.isAgg3
  z3 := Tryd.sizeOf3
  v3 := Tryd.zeroValue3
  t37 := Tryd.underlying36
  a37 := Tryd.isAgg36
  z37 := Tryd.sizeOf36
  v37 := Tryd.zeroValue36
  t70 := Tryd.underlying100
  a70 := Tryd.isAgg100
  z70 := Tryd.sizeOf100
  v70 := Tryd.zeroValue100
  t72 := Tryd.underlying102
  a72 := Tryd.isAgg102
  z72 := Tryd.sizeOf102
  v72 := Tryd.zeroValue102 }
theorem Builder_Extra_241 : Builder.Extra Tryd.prog lays241_ren := {
  sizeBuilder := by kernel_rfl
  liesBuilder := by kernel_rfl
  t5 := Tryd.underlying5
  a5 := Tryd.isAgg5
  z5 := Tryd.sizeOf5
  v5 := Tryd.zeroValue5
  infoByte := by kernel_rfl
  cellsByte := by kernel_rfl
  sizeByte := by kernel_rfl
  neB5 := by decide }
open Go.RowKit in
/-- (*strings.Builder).grow (no doc but "grow copies the buffer to a new, larger buffer so that there are at least n bytes of capacity beyond len(b.buf)."): AT A BUILDER WITHOUT A BUFFER: a new row of whatever bytes for its buffer, none of them its own yet. Three draws. (LAID: no walk: one application.) -/
theorem Builder_grow_fresh (B b n : Nat) (w : World) (hB : B ≤ b) (hbk : w.heap[b]? = some (.cells #[.pointer (some ⟨b, 0, none⟩), .slice none 0 0] 102 (0, 0))) (hBw : B ≤ w.heap.size) (hn : n ≤ 281474976710656) :
    Calls Tryd.prog 85 #[.pointer (some ⟨b, 0, none⟩), .int .i64 n] w fun e w' => e = .returned (.tuple #[]) ∧ (Lib.BuilderAt 102 5 B b (.pointer (some ⟨b, 0, none⟩)) [] w' ∧ Below B w w') := Any.Builder_grow_fresh lays241 Builder_Extra_241 B b n w hB hbk hBw hn
def lays165_ren : Go.Shelf.Ren := ⟨fun | 165 => 52 | 240 => 84 | 241 => 85 | 276 => 108 | 277 => 109 | n => n, fun | 70 => 100 | 3 => 3 | 0 => 0 | 4 => 4 | 9 => 9 | 20 => 20 | 72 => 102 | 37 => 36 | 164 => 144 | 5 => 5 | n => n, fun | n => n⟩
theorem lays165 : Go.Proofs.Lays.n165 Tryd.prog lays165_ren := {
  mixed := by kernel_rfl
  f165 := Tryd.func52.trans (congrArg some (by kernel_rfl))
  f240 := Tryd.func84.trans (congrArg some (by kernel_rfl))
  f241 := Tryd.func85.trans (congrArg some (by kernel_rfl))
  f276 := Tryd.func108.trans (congrArg some (by kernel_rfl))
  f277 := Tryd.func109.trans (congrArg some (by kernel_rfl))
  t0 := Tryd.underlying0
  a0 := Tryd.isAgg0
  z0 := Tryd.sizeOf0
  v0 := Tryd.zeroValue0
  t3 := Tryd.underlying3
  a3 := Tryd.isAgg3
  z3 := Tryd.sizeOf3
  v3 := Tryd.zeroValue3
  t4 := Tryd.underlying4
  a4 := Tryd.isAgg4
  z4 := Tryd.sizeOf4
  v4 := Tryd.zeroValue4
  t9 := Tryd.underlying9
  a9 := Tryd.isAgg9
  z9 := Tryd.sizeOf9
  v9 := Tryd.zeroValue9
  t20 := Tryd.underlying20
  a20 := Tryd.isAgg20
  z20 := Tryd.sizeOf20
  v20 := Tryd.zeroValue20
  t37 := Tryd.underlying36
  a37 := Tryd.isAgg36
  z37 := Tryd.sizeOf36
  v37 := Tryd.zeroValue36
  t70 := Tryd.underlying100
  a70 := Tryd.isAgg100
  z70 := Tryd.sizeOf100
  v70 := Tryd.zeroValue100
  t72 := Tryd.underlying102
  a72 := Tryd.isAgg102
  z72 := Tryd.sizeOf102
  v72 := Tryd.zeroValue102
  t164 := Tryd.underlying144
  a164 := Tryd.isAgg144
  z164 := Tryd.sizeOf144
  v164 := Tryd.zeroValue144 }
theorem Builder_Extra_165 : Builder.Extra Tryd.prog lays165_ren := {
  sizeBuilder := by kernel_rfl
  liesBuilder := by kernel_rfl
  t5 := Tryd.underlying5
  a5 := Tryd.isAgg5
  z5 := Tryd.sizeOf5
  v5 := Tryd.zeroValue5
  infoByte := by kernel_rfl
  cellsByte := by kernel_rfl
  sizeByte := by kernel_rfl
  neB5 := by decide }
open Go.RowKit in
/-- (*strings.Builder).Grow AT A BUILDER THAT HAS NOT BEEN WRITTEN ('var b strings.Builder; b.Grow(n)'): "Grow grows b's capacity, if necessary, to guarantee space for another n bytes.": it holds no byte behind it as before it. (LAID: no walk: one application.) -/
theorem Builder_Grow_fresh (B b n : Nat) (w : World) (hB : B ≤ b) (hbk : w.heap[b]? = some (.cells #[.pointer none, .slice none 0 0] 102 (0, 0))) (hBw : B ≤ w.heap.size) (hn : n ≤ 281474976710656) :
    Calls Tryd.prog 52 #[.pointer (some ⟨b, 0, none⟩), .int .i64 n] w fun e w' => e = .returned (.tuple #[]) ∧ (Lib.BuilderAt 102 5 B b (.pointer (some ⟨b, 0, none⟩)) [] w' ∧ Below B w w') := Any.Builder_Grow_fresh lays165 Builder_Extra_165 B b n w hB hbk hBw hn
def lays156_ren : Go.Shelf.Ren := ⟨fun | 156 => 35 | 165 => 52 | 166 => 53 | 169 => 54 | 240 => 84 | 241 => 85 | 276 => 108 | 277 => 109 | n => n, fun | 31 => 57 | 9 => 9 | 3 => 3 | 4 => 4 | 0 => 0 | 20 => 20 | 72 => 102 | 76 => 106 | 70 => 100 | 37 => 36 | 75 => 105 | 127 => 133 | 164 => 144 | 5 => 5 | 80 => 108 | n => n, fun | n => n⟩
theorem lays156 : Go.Proofs.Lays.n156 Tryd.prog lays156_ren := {
  mixed := by kernel_rfl
  f156 := Tryd.func35.trans (congrArg some (by kernel_rfl))
  f165 := Tryd.func52.trans (congrArg some (by kernel_rfl))
  f166 := Tryd.func53.trans (congrArg some (by kernel_rfl))
  f169 := Tryd.func54.trans (congrArg some (by kernel_rfl))
  f240 := Tryd.func84.trans (congrArg some (by kernel_rfl))
  f241 := Tryd.func85.trans (congrArg some (by kernel_rfl))
  f276 := Tryd.func108.trans (congrArg some (by kernel_rfl))
  f277 := Tryd.func109.trans (congrArg some (by kernel_rfl))
  t0 := Tryd.underlying0
  a0 := Tryd.isAgg0
  z0 := Tryd.sizeOf0
  v0 := Tryd.zeroValue0
  t3 := Tryd.underlying3
  a3 := Tryd.isAgg3
  z3 := Tryd.sizeOf3
  v3 := Tryd.zeroValue3
  t4 := Tryd.underlying4
  a4 := Tryd.isAgg4
  z4 := Tryd.sizeOf4
  v4 := Tryd.zeroValue4
  t9 := Tryd.underlying9
  a9 := Tryd.isAgg9
  z9 := Tryd.sizeOf9
  v9 := Tryd.zeroValue9
  t20 := Tryd.underlying20
  a20 := Tryd.isAgg20
  z20 := Tryd.sizeOf20
  v20 := Tryd.zeroValue20
  t31 := Tryd.underlying57
  a31 := Tryd.isAgg57
  z31 := Tryd.sizeOf57
  v31 := Tryd.zeroValue57
  t37 := Tryd.underlying36
  a37 := Tryd.isAgg36
  z37 := Tryd.sizeOf36
  v37 := Tryd.zeroValue36
  t70 := Tryd.underlying100
  a70 := Tryd.isAgg100
  z70 := Tryd.sizeOf100
  v70 := Tryd.zeroValue100
  t72 := Tryd.underlying102
  a72 := Tryd.isAgg102
  z72 := Tryd.sizeOf102
  v72 := Tryd.zeroValue102
  t75 := Tryd.underlying105
  a75 := Tryd.isAgg105
  z75 := Tryd.sizeOf105
  v75 := Tryd.zeroValue105
  t76 := Tryd.underlying106
  a76 := Tryd.isAgg106
  z76 := Tryd.sizeOf106
  v76 := Tryd.zeroValue106
  t127 := Tryd.underlying133
  a127 := Tryd.isAgg133
  z127 := Tryd.sizeOf133
  v127 := Tryd.zeroValue133
  t164 := Tryd.underlying144
  a164 := Tryd.isAgg144
  z164 := Tryd.sizeOf144
  v164 := Tryd.zeroValue144 }
theorem Builder_Extra_156 : Builder.Extra Tryd.prog lays156_ren := {
  sizeBuilder := by kernel_rfl
  liesBuilder := by kernel_rfl
  t5 := Tryd.underlying5
  a5 := Tryd.isAgg5
  z5 := Tryd.sizeOf5
  v5 := Tryd.zeroValue5
  infoByte := by kernel_rfl
  cellsByte := by kernel_rfl
  sizeByte := by kernel_rfl
  neB5 := by decide }
open Go.RowKit in
/-- No element: the empty string; the world is as it was. (Whatever the slice's address and capacity: a nil slice too.) (LAID: no walk: one application.) -/
theorem strings_Join_none (a : Option Addr) (c : Nat) (sep : ByteArray) (w : World) :
    Calls Tryd.prog 35 #[.slice a 0 c, .string sep] w fun e w' => e = .returned (.string ⟨#[]⟩) ∧ w' = w := Any.strings_Join_none lays156 Builder_Extra_156 a c sep w
open Go.RowKit in
/-- strings.Join: "Join concatenates the elements of its first argument to create a single string. The separator string sep is placed between elements in the resulting string.": HOWEVER MANY ELEMENTS. Below the heap's end the world is as it was. (LAID: no walk: one application.) -/
theorem strings_Join (bk o c : Nat) (xs : List ByteArray) (sep : ByteArray) (w : World) (hcells : ∀ (j : Nat) x, xs[j]? = some x → w.cell? ⟨bk, o + j, none⟩ = some (.string x)) (hbk : bk < w.heap.size) (hN : xs.length ≤ 140737488355328) (hcap : xs.length ≤ c) (hlen : (Lib.join (xs.map (·.data.toList)) sep.data.toList).length ≤ 140737488355328) :
    Calls Tryd.prog 35 #[.slice (some ⟨bk, o, none⟩) xs.length c, .string sep] w fun e w' => e = .returned (.string ⟨(Lib.join (xs.map (·.data.toList)) sep.data.toList).toArray⟩) ∧ Below w.heap.size w w' := Any.strings_Join lays156 Builder_Extra_156 bk o c xs sep w hcells hbk hN hcap hlen
def lays206_ren : Go.Shelf.Ren := ⟨fun | 206 => 116 | n => n, fun | 9 => 9 | 4 => 4 | 3 => 3 | n => n, fun | n => n⟩
theorem lays206 : Go.Proofs.Lays.n206 Tryd.prog lays206_ren := {
  mixed := by kernel_rfl
  f206 := Tryd.func116.trans (congrArg some (by kernel_rfl))
  t3 := Tryd.underlying3
  a3 := Tryd.isAgg3
  z3 := Tryd.sizeOf3
  v3 := Tryd.zeroValue3
  t4 := Tryd.underlying4
  a4 := Tryd.isAgg4
  z4 := Tryd.sizeOf4
  v4 := Tryd.zeroValue4
  t9 := Tryd.underlying9
  a9 := Tryd.isAgg9
  z9 := Tryd.sizeOf9
  v9 := Tryd.zeroValue9 }
open Go.RowKit Go.Lib in
/-- internal/stringslite.HasPrefix (what strings.HasPrefix calls). (LAID: no walk: one application.) -/
theorem stringslite_HasPrefix (s p : ByteArray) (w : World) :
    Calls Tryd.prog 116 #[.string s, .string p] w fun e w' => e = .returned (.bool (Lib.hasPrefix s.data.toList p.data.toList)) ∧ w' = w := Any.stringslite_HasPrefix lays206 s p w
def lays99_ren : Go.Shelf.Ren := ⟨fun | 99 => 107 | 206 => 116 | n => n, fun | 9 => 9 | 4 => 4 | 3 => 3 | n => n, fun | n => n⟩
theorem lays99 : Go.Proofs.Lays.n99 Tryd.prog lays99_ren := {
  mixed := by kernel_rfl
  f99 := Tryd.func107.trans (congrArg some (by kernel_rfl))
  f206 := Tryd.func116.trans (congrArg some (by kernel_rfl))
  t3 := Tryd.underlying3
  a3 := Tryd.isAgg3
  z3 := Tryd.sizeOf3
  v3 := Tryd.zeroValue3
  t4 := Tryd.underlying4
  a4 := Tryd.isAgg4
  z4 := Tryd.sizeOf4
  v4 := Tryd.zeroValue4
  t9 := Tryd.underlying9
  a9 := Tryd.isAgg9
  z9 := Tryd.sizeOf9
  v9 := Tryd.zeroValue9 }
open Go.RowKit Go.Lib in
/-- strings.HasPrefix: "HasPrefix reports whether the string s begins with prefix.": IT RETURNS 'Lib.hasPrefix s prefix'; the world is as it was. (LAID: no walk: one application.) -/
theorem strings_HasPrefix (s p : ByteArray) (w : World) :
    Calls Tryd.prog 107 #[.string s, .string p] w fun e w' => e = .returned (.bool (Lib.hasPrefix s.data.toList p.data.toList)) ∧ w' = w := Any.strings_HasPrefix lays99 s p w
end Go.Proofs.YtggkehncpkfakaaDoor.Fm

/-
  The contract of Join.
-/
namespace Go.Proofs.YtggkehncpkfakaaDoor.Lx
open Go Go.RowKit Go.Shelf Go.Proofs.YtggkehncpkfakaaDoor.Fm
set_option linter.unusedVariables false
set_option linter.unusedSimpArgs false
theorem flatG_toG (ts : List Tk) : flatG (ts.map toG) = flat ts := by
  unfold flatG flat; rw [List.flatMap_map]; rfl
def txG (ts : List Tg) : List ByteArray := (ts.filter fun t => t.k != 5).map (·.t)
def joinG (ts : List Tg) : ByteArray := ⟨(Lib.join ((txG ts).map (·.data.toList)) [32]).toArray⟩
theorem join_joinB : ∀ l : List Bs, Lib.join l [32] = joinB l
  | [] => rfl
  | [a] => by simp [Lib.join, joinB, List.intercalate]
  | a :: b :: r => by
    have h := join_joinB (b :: r)
    unfold Lib.join at h ⊢
    rw [show joinB (a :: b :: r) = a ++ 32 :: joinB (b :: r) from rfl, ← h]
    simp [List.intercalate]
theorem joinG_toG (ts : List Tk) : joinG (ts.map toG) = bs (join ts) := by
  unfold joinG bs join
  rw [join_joinB]
  congr 2
  unfold txG texts
  rw [List.filter_map, List.map_map, List.map_map]
  have e : ((fun t : Tg => t.k != 5) ∘ toG) = fun t : Tk => t.k != 5 := by
    funext t
    show (((t.k : Nat) : Int) != 5) = (t.k != 5)
    rw [Bool.eq_iff_iff]; simp; omega
  rw [e]
  congr 1
theorem infoT' : (Tryd.prog.info? 9).map (fun i => (i.zero, i.size, i.bytes)) = some (some (.string ByteArray.empty), 1, 16) := by kernel_rfl
def JnR (ts : List Tg) (w : World) (v i : Value) (wr : World) : Prop := ∃ q : Nat, i = .int .i64 (q : Int) ∧ q ≤ ts.length ∧ Below w.heap.size w wr ∧ wr.ownsRow w.heap.size 9 1 v (txG (ts.take q)).length ((txG (ts.take q)).map .string)
theorem tx_snoc (ts : List Tg) (q : Nat) (h : q < ts.length) : txG (ts.take (q + 1)) = if ts[q].k = 5 then txG (ts.take q) else txG (ts.take q) ++ [ts[q].t] := by
  rw [List.take_succ_eq_append_getElem h]
  unfold txG
  rw [List.filter_append, List.map_append]
  by_cases hk : ts[q].k = 5
  · rw [if_pos hk]; simp [hk]
  · rw [if_neg hk]; simp [hk]
theorem own_cap {w : World} {base n size g cap : Nat} {e : TypeId} {xs : List Value} (h : w.ownsRow base e size (.slice (some ⟨g, 0, none⟩) n cap) n xs) : n ≤ cap := by
  rcases h.2 with ⟨h0, _⟩ | ⟨g', cap', cur, h0, _, _, h3, _⟩
  · cases h0
  · injection h0 with _ _ h1; omega
theorem new_one (w : World) (x : Value) (t : TypeId) : ∀ j u, [x][j]? = some u → (w.alloc (.cells #[x] t)).cell? ((⟨w.heap.size, 0, none⟩ : Addr).add j) = some u := by
  intro j u h
  have e : (⟨w.heap.size, 0, none⟩ : Addr).add j = ⟨w.heap.size, j, none⟩ := by
    unfold Addr.add
    by_cases h0 : j = 0
    · rw [if_pos h0, h0]
    · rw [if_neg h0, Nat.zero_add]
  rw [e, World.cell?_alloc_at _ _ _ _ rfl, ← h]
  simp
set_option maxHeartbeats 2000000 in
set_option maxRecDepth 20000 in
theorem join_c (ts : List Tg) (a : Option Addr) (cap : Nat) (w : World) (h : TsV w a ts) (hn : ts.length ≤ 1000000) (hl : (Lib.join ((txG ts).map (·.data.toList)) [32]).length ≤ 140737488355328) :
    Calls Tryd.prog 22 #[.slice a ts.length cap] w fun e w' => e = .returned (.string (joinG ts)) ∧ Below w.heap.size w w' := by
  have H := Lib.hid h
  clear h
  go_enter Tryd.func22, Tryd.ntmps22
  go_wp2_with fail
  go_loopw [3, 8] (fun v i wr => JnR ts w v i wr) (fun _ i _ => ts.length - (intOf i).toNat)
  case atStart => exact ⟨0, rfl, Nat.zero_le _, Below.refl _ _, World.ownsRow_nil _ _ _ _⟩
  case round =>
    obtain ⟨q, rfl, hq, hbq, hown⟩ := hrel
    by_cases hlt : q < ts.length
    · obtain ⟨g, o, rfl, hg, c0, c1, c2⟩ := (H.out.grow hbq).get hlt
      have n0 : (0 : Int) ≤ (q : Int) := by omega
      have n1 : (q : Int) < (ts.length : Int) := by omega
      have HS := Lib.hid (tx_snoc ts q hlt)
      have HO := Lib.hid hown
      have HB := Lib.hid hbq
      have hlen : (txG (ts.take q)).length ≤ 1000000 := by
        unfold txG
        rw [List.length_map]
        exact Nat.le_trans (List.length_filter_le _ _) (by rw [List.length_take]; omega)
      obtain ⟨d, hd⟩ : ∃ d, txG (ts.take q) = d := ⟨_, rfl⟩
      rw [hd] at hown hlen
      have HD := Lib.hid hd
      clear hbq hd
      by_cases hk : ts[q].k = 5
      · have HK := Lib.hid hk
        clear hown
        go_wp2_with fail
        refine ⟨⟨q + 1, by go_num, by omega, HB.out.alloc HB.out.size _, ?_⟩, by simp [intOf]; omega⟩
        rw [HS.out, if_pos HK.out]
        exact own_below HO.out ((Below.refl _ _).alloc (Nat.le_refl _) _)
      · have dk : (ts[q].k != 5) = true := by simpa using hk
        have dk2 : (ts[q].k == 5) = false := by simpa using hk
        have HK := Lib.hid hk
        have HRW := Lib.hid (fun W (h : Below wr.heap.size wr W) => own_below hown h)
        have HLT := Lib.hid hown.lt
        obtain ⟨i0, hi, hz0, hz1, hz2⟩ := info_parts infoT'
        have hz := HB.out.size
        clear hk hown
        go_wp2_with ((at_builtin; refine wpList_append_lies _ (by rfl) _ _ 57 (by rfl) w.heap.size 9 i0 (.string ByteArray.empty) 1 16 Tryd.underlying57 hi hz0 hz1 hz2 rfl (by decide) _ d.length (d.map .string) (by rfl) (HRW.out _ (Below.alloc (Below.alloc (Below.refl _ _) (Nat.le_refl _) _) (by simp) _)) ⟨wr.heap.size + 1, 0, none⟩ 1 1 [.string ts[q].t] (by rfl) (by rfl) (by have := new_one (wr.alloc (.cells #[.int .u8 ts[q].k, .string ts[q].t, .int .i64 ts[q].a] 47)) (.string ts[q].t) 9; rw [World.size_alloc] at this; exact this) (by simp [Value.oneCell']) (by decide) (by unfold maxLen; omega) (by omega) (by simp; omega) (wr.heap.size + 2) (by simp) ?_))
        intro g9 k9 w7 hown7 hgrow hat hlt7
        have hb7 : Below w.heap.size wr w7 := Below.grown (((Below.refl w.heap.size wr).alloc hz _).alloc (by simp; omega) _) hgrow (by rw [World.size_alloc, World.size_alloc]; omega) (fun k hk => (HLT.out k hk).1)
        have HO7 := Lib.hid hown7
        have HB7 := Lib.hid hb7
        clear hown7 hgrow hat hb7 HRW
        go_wp2_with fail
        refine ⟨⟨q + 1, by go_num, by omega, HB.out.trans HB7.out, ?_⟩, by simp [intOf]; omega⟩
        rw [HS.out, if_neg HK.out, HD.out, List.length_append, List.map_append]
        exact HO7.out
    · have e : q = ts.length := by omega
      subst e
      rw [List.take_length] at hown
      have HB := Lib.hid hbq
      have HR := Lib.hid (show joinG ts = ⟨(Lib.join ((txG ts).map (·.data.toList)) [32]).toArray⟩ from rfl)
      have hlen : (txG ts).length ≤ 1000000 := by
        unfold txG
        rw [List.length_map]
        exact Nat.le_trans (List.length_filter_le _ _) hn
      generalize txG ts = xs at *
      rcases own_cells hown with ⟨rfl, h0, h1⟩ | ⟨g, kp, rfl, hob, hg1, hg2, hcells⟩
      · obtain rfl : xs = [] := List.eq_nil_of_length_eq_zero h0
        clear hown hbq h1 hl
        go_wp2_with (go_at_call 35; refine (strings_Join_none _ _ _ _).mono ?_; rintro e w' ⟨rfl, rfl⟩)
        go_ret
        exact ⟨by rw [HR.out]; rfl, HB.out⟩
      · have HC := Lib.hid (show ∀ (j : Nat) x, xs[j]? = some x → wr.cell? ⟨g, 0 + j, none⟩ = some (.string x) from fun j x hj => by rw [Nat.zero_add]; exact hcells j _ (by rw [List.getElem?_map, hj]; rfl))
        have HCAP := Lib.hid (own_cap hown)
        have HL := Lib.hid hl
        clear hown hbq hcells hob hl
        go_wp2_with (go_at_call 35; refine (strings_Join g 0 kp xs ⟨#[32]⟩ _ HC.out hg2 (by omega) HCAP.out HL.out).mono ?_; rintro e w1 ⟨rfl, hb1⟩)
        go_ret
        exact ⟨by rw [HR.out]; rfl, HB.out.trans (hb1.mono HB.out.size)⟩
end Go.Proofs.YtggkehncpkfakaaDoor.Lx

/-
  What ParseBlanks says, as plain mathematics.
-/
namespace Go.Proofs.YtggkehncpkfakaaDoor.Ps
open Go Go.RowKit Go.Proofs.YtggkehncpkfakaaDoor.Fm Go.Proofs.YtggkehncpkfakaaDoor.Lx
set_option linter.unusedVariables false
set_option linter.unusedSimpArgs false
mutual
theorem eqT_me : ∀ t : Tm, eqT t t = true
  | .mk v n l => by
    unfold eqT
    rw [eqTL_me l]
    simp
theorem eqTL_me : ∀ l : List Tm, eqTL l l = true
  | [] => by unfold eqTL; rfl
  | t :: r => by unfold eqTL; rw [eqT_me t, eqTL_me r]; rfl
end
mutual
theorem eqF_me : ∀ t : Fo, eqF t t = true
  | .mk v n l s => by
    unfold eqF
    rw [eqTL_me l, eqFL_me s]
    simp
theorem eqFL_me : ∀ l : List Fo, eqFL l l = true
  | [] => by unfold eqFL; rfl
  | t :: r => by unfold eqFL; rw [eqF_me t, eqFL_me r]; rfl
end
theorem jn_text (s : ByteArray) : joinG (tgL s) = bs (join (tks KK 0 s.data.toList)) := joinG_toG _
theorem jn_size (s : ByteArray) : (joinG (tgL s)).size ≤ 2 * s.size + 1 := by
  rw [jn_text]
  have h := join_len KK s.data.toList
  have hl : s.data.toList.length = s.size := by simp
  have : (bs (join (tks KK 0 s.data.toList))).size = (join (tks KK 0 s.data.toList)).length := by unfold bs; simp [ByteArray.size]
  omega
theorem jn_join (s : ByteArray) : (Lib.join ((txG (tgL s)).map (·.data.toList)) [32]).length ≤ 2 * s.size + 1 := by
  have h := jn_size s
  have e : (joinG (tgL s)).size = (Lib.join ((txG (tgL s)).map (·.data.toList)) [32]).length := by unfold joinG; simp [ByteArray.size]
  omega
theorem jn_all (s : ByteArray) (h : errs (ysL s) = false) : errs (ysL (joinG (tgL s))) = false ∧ (tgL s).map (fun t => (t.k, t.t)) = (tgL (joinG (tgL s))).map (fun t => (t.k, t.t)) := by
  obtain ⟨h1, h2, h3⟩ := joined KK s.data.toList h
  have e : (joinG (tgL s)).data.toList = join (tks KK 0 s.data.toList) := by rw [jn_text, bs_toList]
  refine ⟨?_, ?_⟩
  · show errs (toks KK 0 (joinG (tgL s)).data.toList) = false
    rw [e]; exact h1
  · unfold tgL tksL ysL
    unfold alike at h2
    have h2' := congrArg (fun l => l.map (fun x : Nat × Bs => ((x.1 : Int), bs x.2))) h2
    simp only [List.map_map] at h2' ⊢
    have e2 : (joinG (List.map (toG ∘ fun x => x.1) (toks KK 0 s.data.toList))).data.toList = join (tks KK 0 s.data.toList) := by
      rw [← e]; unfold tgL tksL ysL; rw [List.map_map]
    rw [e2]
    unfold tks at h2'
    simp only [List.map_map] at h2'
    exact h2'
theorem alk_get {ta tb : List Tg} (h : ta.map (fun t => (t.k, t.t)) = tb.map (fun t => (t.k, t.t))) (q : Nat) (hq : q < ta.length) (hq2 : q < tb.length) : tb[q].k = ta[q].k ∧ tb[q].t = ta[q].t := by
  have := congrArg (fun l => l[q]?) h
  simp only [List.getElem?_map, List.getElem?_eq_getElem hq, List.getElem?_eq_getElem hq2, Option.map_some, Option.some.injEq, Prod.mk.injEq] at this
  exact ⟨this.1.symm, this.2.symm⟩
theorem alk_agr {m : Bool} {ta tb : List Tg} (h : ta.map (fun t => (t.k, t.t)) = tb.map (fun t => (t.k, t.t))) (k : Nat) : AgrN m m k ta tb := by
  have hlen : ta.length = tb.length := by have := congrArg List.length h; simpa using this
  intro i _
  refine .inl ⟨?_, rfl, rfl⟩
  by_cases hi : i < ta.length
  · have hi2 : i < tb.length := by omega
    unfold tx
    rw [hd_drop hi, hd_drop hi2]
    exact (alk_get h i hi hi2).2.symm
  · rw [List.drop_eq_nil_of_le (by omega), List.drop_eq_nil_of_le (by omega)]
theorem blanks_facts (rt : Fo → Bool) (s : ByteArray) (hs : s.size ≤ 2500) (hl : lexErr s = none) :
    lexErr (joinG (tgL s)) = none ∧ (joinG (tgL s)).size ≤ 5001 ∧ (tgL (joinG (tgL s))).length = (tgL s).length ∧
    ∃ fo at0 at1 e, formRes true rt s = (fo, at0, e) ∧ formRes true rt (joinG (tgL s)) = (fo, at1, e) ∧
      ((e ≠ 50 ∧ e ≠ 51 ∧ at0 = 0 ∧ at1 = 0) ∨ ((e = 50 ∨ e = 51) ∧ ∃ i, ∃ hi : i < (tgL s).length, ∃ hi' : i < (tgL (joinG (tgL s))).length, ((tgL s)[i]).a = at0 ∧ ((tgL (joinG (tgL s)))[i]).a = at1)) := by
  obtain ⟨h1, h2⟩ := jn_all s (lexErr_none.1 hl)
  have hsz := jn_size s
  have hlu : lexErr (joinG (tgL s)) = none := lexErr_none.2 h1
  generalize joinG (tgL s) = u at *
  have hlen : (tgL u).length = (tgL s).length := by have := congrArg List.length h2; simpa using this.symm
  refine ⟨hlu, by omega, hlen, ?_⟩
  have hf1 : formRes true rt s = endC rt (binC true 0 0 (tgL s)) := by unfold formRes; rw [hl]
  have hf2 : formRes true rt u = endC rt (binC true 0 0 (tgL u)) := by unfold formRes; rw [hlu]
  rw [hf1, hf2]
  rcases locate true (tgL s) (ended_tok true (tok_tgL (by omega) hl).1) with ⟨f, i, hi, hx, hloc⟩ | ⟨i, e, hi, hee, hx, hloc⟩
  · have hi2 : i < (tgL u).length := by omega
    rw [hx, hloc _ (alk_agr h2 _)]
    unfold endC
    simp only [hd_drop hi, hd_drop hi2]
    rw [(alk_get h2 i hi hi2).1]
    by_cases h5 : ((tgL s)[i]).k == 5
    · rw [if_pos h5, if_pos h5]
      cases rt f
      · exact ⟨none, 0, 0, 3, rfl, rfl, .inl ⟨by omega, by omega, rfl, rfl⟩⟩
      · exact ⟨some f, 0, 0, 0, rfl, rfl, .inl ⟨by omega, by omega, rfl, rfl⟩⟩
    · rw [if_neg h5, if_neg h5]
      exact ⟨none, _, _, 50, rfl, rfl, .inr ⟨.inl rfl, i, hi, hi2, rfl, rfl⟩⟩
  · have hi2 : i < (tgL u).length := by omega
    rw [hx, hloc _ (alk_agr h2 _)]
    exact ⟨none, _, _, e, rfl, rfl, .inr ⟨hee, i, hi, hi2, by rw [hd_drop hi], by rw [hd_drop hi2]⟩⟩
end Go.Proofs.YtggkehncpkfakaaDoor.Ps

/-
  ParseBlanks' walk.
-/
namespace Go.Proofs.YtggkehncpkfakaaDoor.Ps
open Go Go.RowKit Go.Shelf Go.Proofs.YtggkehncpkfakaaDoor.Fm Go.Proofs.YtggkehncpkfakaaDoor.Lx
set_option linter.unusedVariables false
set_option linter.unusedSimpArgs false
theorem fv_below {lo : Nat} {w w' : World} {v : Value} {f : Fo} (h : FVal lo w v f) (hb : Below w.heap.size w w') : FVal lo w' v f := by
  obtain ⟨a, c, a', c', h1, h2, h3, h4, h5⟩ := h
  have k1 : ∀ b, Own lo w b → ∀ q, w'.cell? ⟨b, q, none⟩ = w.cell? ⟨b, q, none⟩ := fun b h q => hb.cell (p := ⟨b, q, none⟩) h.2
  have k2 : ∀ b, Own lo w b → Own lo w' b := fun b h => ⟨h.1, Nat.lt_of_lt_of_le h.2 hb.size⟩
  exact ⟨a, c, a', c', h1, h2, h3, h4.keep k1 k2, h5.keep k1 k2⟩
theorem ts_at3 {w : World} {g : Nat} {ts : List Tg} (h : TsV w (some ⟨g, 0, none⟩) ts) {i : Nat} (hi : i < ts.length) : w.cell? ⟨g, i * 3, none⟩ = some (.int .u8 ts[i].k) ∧ w.cell? ⟨g, i * 3 + 1, none⟩ = some (.string ts[i].t) ∧ w.cell? ⟨g, i * 3 + 2, none⟩ = some (.int .i64 ts[i].a) := by
  obtain ⟨g', o, hgo, _, c0, c1, c2⟩ := h.get hi
  injection hgo with hgo
  injection hgo with hgo hgo2
  subst hgo; subst hgo2
  rw [Nat.zero_add] at c0 c1 c2
  exact ⟨c0, c1, c2⟩
theorem lexp_ok (s : ByteArray) (hs : s.size ≤ 16384) (hl : lexErr s = none) (w : World) : Calls Tryd.prog 20 #[.string s] w fun e w' => ∃ g cap, e = .returned (.tuple #[.slice (some ⟨g, 0, none⟩) (tgL s).length cap, .int .i64 0, .int .i64 0]) ∧ Below w.heap.size w w' ∧ TsV w' (some ⟨g, 0, none⟩) (tgL s) := by
  refine (lexp_c s w hs).mono ?_
  intro e w' h
  unfold LxP at h
  rw [hl] at h
  obtain ⟨g, cap, rfl, hb, _, _, hg2, hrow⟩ := h
  exact ⟨g, cap, rfl, hb, ⟨.inr ⟨g, 0, rfl, hg2, fun j u hj => by rw [Nat.zero_add]; exact hrow j u hj⟩⟩⟩
def BlR (s u : ByteArray) (i : Nat) (g g2 : Nat) (W : World) (v : Value) (wr : World) : Prop := ∃ q : Nat, v = .int .i64 (q : Int) ∧ q ≤ i ∧ Below W.heap.size W wr ∧ TsV wr (some ⟨g, 0, none⟩) (tgL s) ∧ TsV wr (some ⟨g2, 0, none⟩) (tgL u)
set_option maxHeartbeats 16000000 in
set_option maxRecDepth 20000 in
theorem blanks_c (s : ByteArray) (W : World) (hT : RTab W) (hL : LTab W W.heap.size) (haw : Calls Tryd.prog 8 #[] W fun e w' => e = .returned (.bool true) ∧ Below W.heap.size W w') : Calls Tryd.prog 5 #[.string s] W fun e w' => e = .returned (.bool true) ∧ Below W.heap.size W w' := by
  have HA := Lib.hid haw
  have HT := Lib.hid hT
  have HL := Lib.hid hL
  have hsch := fun (x : ByteArray) (w : World) (hx : x.size ≤ 16384) (hb : Below W.heap.size W w) => schema_p x w hx (HT.out.below hb HT.out.1) ⟨Nat.lt_of_lt_of_le HL.out.1 hb.size, (HL.out.keep (hb.block _ HL.out.1)).2⟩
  have HSCH := Lib.hid hsch
  clear hsch hT hL haw
  by_cases h1 : 2500 < s.size
  · have d1 : decide (2500 < s.size) = true := decide_eq_true h1
    have d2 : decide (2500 < (s.size : Int)) = true := decide_eq_true (by omega)
    go_enter Tryd.func5, Tryd.ntmps5
    go_wp2_with fail
    refine HA.out.mono ?_
    rintro e w1 ⟨rfl, hb1⟩
    go_wp2_with fail
    go_ret
    exact ⟨rfl, hb1⟩
  have d1 : decide (2500 < s.size) = false := decide_eq_false h1
  have d2 : decide (2500 < (s.size : Int)) = false := decide_eq_false (by omega)
  cases hle : lexErr s with
  | some an =>
    obtain ⟨a, z⟩ := an
    have hz0 : (z != 0) = true := bne_iff_ne.2 (lexErr_ne hle)
    have hX : formRes true (rightB true) s = (none, a, z) := by unfold formRes; rw [hle]
    have HX := Lib.hid hX
    have HLX := Lib.hid (fun w => lexp_c s w (by omega))
    have HLE := Lib.hid hle
    clear hX hle
    go_enter Tryd.func5, Tryd.ntmps5
    go_wp2_with fail
    refine HA.out.mono ?_
    rintro e w1 ⟨rfl, hb1⟩
    go_wp2_with fail
    have hlx := HLX.out w1
    unfold LxP at hlx
    rw [HLE.out] at hlx
    simp only at hlx
    refine hlx.mono ?_
    rintro e w2 ⟨rfl, hb2⟩
    have hb2 := hb1.trans (hb2.mono hb1.size)
    have hs1 := HSCH.out s w2 (by omega) hb2
    rw [HX.out] at hs1
    clear hlx
    go_wp2_with fail
    refine hs1.mono ?_
    rintro e w3 ⟨v3, rfl, ⟨a2, k2, a3, k3, rfl, HREST⟩, hb3⟩
    have hb3 := hb2.trans (hb3.mono hb2.size)
    clear HREST hs1 hb1 hb2
    go_upto_region 7 with fail
    generalize hw4 : w3.alloc (.cells #[_, _, _, _] 25) = w4
    have hb4 : Below W.heap.size W w4 := by rw [← hw4]; exact hb3.alloc hb3.size _
    clear hw4 hb3
    go_wp2_with fail
    go_ret
    exact ⟨rfl, hb4⟩
  | none =>
    obtain ⟨hlu, husz, hlen, fo, at0, at1, e0, hX, hY, hcase⟩ := blanks_facts (rightB true) s (by omega) hle
    have HLX := Lib.hid (lexp_ok s (by omega) hle)
    have HLU := Lib.hid (lexp_ok (joinG (tgL s)) (by omega) hlu)
    have hln := (tok_tgL (by omega) hle).2
    have HJN := Lib.hid (fun cap w a (h : TsV w a (tgL s)) => join_c (tgL s) a cap w h (by omega) (by have := jn_join s; omega))
    generalize joinG (tgL s) = u at *
    have HX := Lib.hid hX
    have HY := Lib.hid hY
    have hfz : ∃ fz, fo.getD zeroF = fz := ⟨_, rfl⟩
    obtain ⟨fz, hfz⟩ := hfz
    have HFZ := Lib.hid hfz
    have dl : (((tgL s).length : Int) != ((tgL u).length : Int)) = false := by simp; omega
    have de : (e0 != e0) = false := by simp
    clear hX hY hlu hle hfz
    rcases hcase with ⟨h50, h51, rfl, rfl⟩ | ⟨rfl | rfl, hcase⟩
    · go_enter Tryd.func5, Tryd.ntmps5
      go_wp2_with fail
      refine HA.out.mono ?_
      rintro e w1 ⟨rfl, hb1⟩
      go_wp2_with fail
      clear d1 d2
      refine (HLX.out w1).mono ?_
      rintro e w2 ⟨g, cap, rfl, hb2, ht2⟩
      have hb2 := hb1.trans (hb2.mono hb1.size)
      have hs1 := HSCH.out s w2 (by omega) hb2
      rw [HX.out] at hs1
      clear hb1
      go_wp2_with fail
      refine hs1.mono ?_
      rintro e w3 ⟨v3, rfl, hv3, hb3⟩
      rw [HFZ.out] at hv3
      have HV3 := Lib.hid hv3
      obtain ⟨a2, k2, a3, k3, rfl, HREST⟩ := hv3
      have ht3 := ht2.grow hb3
      have hb3 := hb2.trans (hb3.mono hb2.size)
      have HZ2 := Lib.hid hb2.size
      clear HREST hs1 hb2 ht2
      go_upto_region 7 with fail
      generalize hw4 : w3.alloc (.cells #[.int .u8 fz.op, .string fz.n, .slice a2 fz.args.length k2, .slice a3 fz.sub.length k3] 25) = w4
      have hal : Below w3.heap.size w3 w4 := by rw [← hw4]; exact (Below.refl _ _).alloc (Nat.le_refl _) _
      have hbx := Bx4.new w3 (.int .u8 fz.op) (.string fz.n) (.slice a2 fz.args.length k2) (.slice a3 fz.sub.length k3) 25
      rw [hw4] at hbx
      have HV4 := Lib.hid (fv_below HV3.out hal)
      have HT4 := Lib.hid (ht3.grow hal)
      have hb4 := hb3.trans (hal.mono hb3.size)
      have HB4 := Lib.hid hb4
      have HBX4 := Lib.hid hbx
      have hj := HJN.out cap w4 _ HT4.out
      clear hw4 hal hbx HV3 ht3 hb3 hb4
      go_wp2_with fail
      refine hj.mono ?_
      rintro e w5 ⟨rfl, hb5⟩
      have HV5 := Lib.hid (fv_below HV4.out hb5)
      have HT5 := Lib.hid (HT4.out.grow hb5)
      have HBX5 := Lib.hid (HBX4.out.heap (hb5.block _ HBX4.out.lt) (Nat.lt_of_lt_of_le HBX4.out.lt hb5.size))
      have HB5 := Lib.hid (HB4.out.trans (hb5.mono HB4.out.size))
      clear hb5 hj HV4 HT4 HBX4 HB4
      go_wp2_with fail
      refine (HLU.out w5).mono ?_
      rintro e w6 ⟨g2, cap2, rfl, hb6, hu6⟩
      have HV6 := Lib.hid (fv_below HV5.out hb6)
      have HT6 := Lib.hid (HT5.out.grow hb6)
      have HBX6 := Lib.hid (HBX5.out.heap (hb6.block _ HBX5.out.lt) (Nat.lt_of_lt_of_le HBX5.out.lt hb6.size))
      have HB6 := Lib.hid (HB5.out.trans (hb6.mono HB5.out.size))
      have HU6 := Lib.hid hu6
      have hs2 := HSCH.out u w6 (by omega) HB6.out
      rw [HY.out] at hs2
      clear hb6 hu6 HV5 HT5 HBX5 HB5
      go_wp2_with fail
      refine hs2.mono ?_
      rintro e w7 ⟨v7, rfl, hv7, hb7⟩
      rw [HFZ.out] at hv7
      have HW7 := Lib.hid hv7
      obtain ⟨b2, j2, b3, j3, rfl, HREST⟩ := hv7
      have HV7 := Lib.hid (fv_below HV6.out hb7)
      have HT7 := Lib.hid (HT6.out.grow hb7)
      have HU7 := Lib.hid (HU6.out.grow hb7)
      have HBX7 := Lib.hid (HBX6.out.heap (hb7.block _ HBX6.out.lt) (Nat.lt_of_lt_of_le HBX6.out.lt hb7.size))
      have HB7 := Lib.hid (HB6.out.trans (hb7.mono HB6.out.size))
      clear HREST hs2 hb7 HV6 HT6 HU6 HBX6 HB6
      go_upto_region 12 with fail
      generalize hw8 : w7.alloc (.cells #[.int .u8 fz.op, .string fz.n, .slice b2 fz.args.length j2, .slice b3 fz.sub.length j3] 25) = w8
      have hal : Below w7.heap.size w7 w8 := by rw [← hw8]; exact (Below.refl _ _).alloc (Nat.le_refl _) _
      have hbx := Bx4.new w7 (.int .u8 fz.op) (.string fz.n) (.slice b2 fz.args.length j2) (.slice b3 fz.sub.length j3) 25
      rw [hw8] at hbx
      have hV8 := fval_fov (fv_below HV7.out hal)
      have hW8 := fval_fov (fv_below HW7.out hal)
      have HT8 := Lib.hid (HT7.out.grow hal)
      have HU8 := Lib.hid (HU7.out.grow hal)
      have hby := HBX7.out.heap (hal.block _ HBX7.out.lt) (Nat.lt_of_lt_of_le HBX7.out.lt hal.size)
      have HB8 := Lib.hid (HB7.out.trans (hal.mono HB7.out.size))
      have heq := eqF_c (SizeOf.sizeOf fz + 1) fz (Nat.lt_succ_self _) fz _ _ _ _ _ _ _ _ w8.heap.size w8 hV8 hW8 (Nat.le_refl _)
      rw [eqF_me] at heq
      obtain ⟨c0, c1, c2, c3, _, _, _, _, hz1⟩ := hby
      obtain ⟨y0, y1, y2, y3, _, _, _, _, hz2⟩ := hbx
      clear hw8 hal hV8 hW8 HV7 HW7 HT7 HU7 HBX7 HB7
      go_wp2_with fail
      refine heq.mono ?_
      rintro e w9 ⟨rfl, hb9⟩
      have HT9 := Lib.hid (HT8.out.grow hb9)
      have HU9 := Lib.hid (HU8.out.grow hb9)
      have HB9 := Lib.hid (HB8.out.trans (hb9.mono HB8.out.size))
      clear hb9 heq c0 c1 c2 c3 y0 y1 y2 y3 hz1 hz2 HT8 HU8 HB8
      have m50 : (e0 != 50) = true := bne_iff_ne.2 h50
      have m51 : (e0 != 51) = true := bne_iff_ne.2 h51
      go_wp2_with fail
      go_ret
      exact ⟨rfl, HB9.out⟩
    · go_enter Tryd.func5, Tryd.ntmps5
      go_wp2_with fail
      refine HA.out.mono ?_
      rintro e w1 ⟨rfl, hb1⟩
      go_wp2_with fail
      clear d1 d2
      refine (HLX.out w1).mono ?_
      rintro e w2 ⟨g, cap, rfl, hb2, ht2⟩
      have hb2 := hb1.trans (hb2.mono hb1.size)
      have hs1 := HSCH.out s w2 (by omega) hb2
      rw [HX.out] at hs1
      clear hb1
      go_wp2_with fail
      refine hs1.mono ?_
      rintro e w3 ⟨v3, rfl, hv3, hb3⟩
      rw [HFZ.out] at hv3
      have HV3 := Lib.hid hv3
      obtain ⟨a2, k2, a3, k3, rfl, HREST⟩ := hv3
      have ht3 := ht2.grow hb3
      have hb3 := hb2.trans (hb3.mono hb2.size)
      have HZ2 := Lib.hid hb2.size
      clear HREST hs1 hb2 ht2
      go_upto_region 7 with fail
      generalize hw4 : w3.alloc (.cells #[.int .u8 fz.op, .string fz.n, .slice a2 fz.args.length k2, .slice a3 fz.sub.length k3] 25) = w4
      have hal : Below w3.heap.size w3 w4 := by rw [← hw4]; exact (Below.refl _ _).alloc (Nat.le_refl _) _
      have hbx := Bx4.new w3 (.int .u8 fz.op) (.string fz.n) (.slice a2 fz.args.length k2) (.slice a3 fz.sub.length k3) 25
      rw [hw4] at hbx
      have HV4 := Lib.hid (fv_below HV3.out hal)
      have HT4 := Lib.hid (ht3.grow hal)
      have hb4 := hb3.trans (hal.mono hb3.size)
      have HB4 := Lib.hid hb4
      have HBX4 := Lib.hid hbx
      have hj := HJN.out cap w4 _ HT4.out
      clear hw4 hal hbx HV3 ht3 hb3 hb4
      go_wp2_with fail
      refine hj.mono ?_
      rintro e w5 ⟨rfl, hb5⟩
      have HV5 := Lib.hid (fv_below HV4.out hb5)
      have HT5 := Lib.hid (HT4.out.grow hb5)
      have HBX5 := Lib.hid (HBX4.out.heap (hb5.block _ HBX4.out.lt) (Nat.lt_of_lt_of_le HBX4.out.lt hb5.size))
      have HB5 := Lib.hid (HB4.out.trans (hb5.mono HB4.out.size))
      clear hb5 hj HV4 HT4 HBX4 HB4
      go_wp2_with fail
      refine (HLU.out w5).mono ?_
      rintro e w6 ⟨g2, cap2, rfl, hb6, hu6⟩
      have HV6 := Lib.hid (fv_below HV5.out hb6)
      have HT6 := Lib.hid (HT5.out.grow hb6)
      have HBX6 := Lib.hid (HBX5.out.heap (hb6.block _ HBX5.out.lt) (Nat.lt_of_lt_of_le HBX5.out.lt hb6.size))
      have HB6 := Lib.hid (HB5.out.trans (hb6.mono HB5.out.size))
      have HU6 := Lib.hid hu6
      have hs2 := HSCH.out u w6 (by omega) HB6.out
      rw [HY.out] at hs2
      clear hb6 hu6 HV5 HT5 HBX5 HB5
      go_wp2_with fail
      refine hs2.mono ?_
      rintro e w7 ⟨v7, rfl, hv7, hb7⟩
      rw [HFZ.out] at hv7
      have HW7 := Lib.hid hv7
      obtain ⟨b2, j2, b3, j3, rfl, HREST⟩ := hv7
      have HV7 := Lib.hid (fv_below HV6.out hb7)
      have HT7 := Lib.hid (HT6.out.grow hb7)
      have HU7 := Lib.hid (HU6.out.grow hb7)
      have HBX7 := Lib.hid (HBX6.out.heap (hb7.block _ HBX6.out.lt) (Nat.lt_of_lt_of_le HBX6.out.lt hb7.size))
      have HB7 := Lib.hid (HB6.out.trans (hb7.mono HB6.out.size))
      clear HREST hs2 hb7 HV6 HT6 HU6 HBX6 HB6
      go_upto_region 12 with fail
      generalize hw8 : w7.alloc (.cells #[.int .u8 fz.op, .string fz.n, .slice b2 fz.args.length j2, .slice b3 fz.sub.length j3] 25) = w8
      have hal : Below w7.heap.size w7 w8 := by rw [← hw8]; exact (Below.refl _ _).alloc (Nat.le_refl _) _
      have hbx := Bx4.new w7 (.int .u8 fz.op) (.string fz.n) (.slice b2 fz.args.length j2) (.slice b3 fz.sub.length j3) 25
      rw [hw8] at hbx
      have hV8 := fval_fov (fv_below HV7.out hal)
      have hW8 := fval_fov (fv_below HW7.out hal)
      have HT8 := Lib.hid (HT7.out.grow hal)
      have HU8 := Lib.hid (HU7.out.grow hal)
      have hby := HBX7.out.heap (hal.block _ HBX7.out.lt) (Nat.lt_of_lt_of_le HBX7.out.lt hal.size)
      have HB8 := Lib.hid (HB7.out.trans (hal.mono HB7.out.size))
      have heq := eqF_c (SizeOf.sizeOf fz + 1) fz (Nat.lt_succ_self _) fz _ _ _ _ _ _ _ _ w8.heap.size w8 hV8 hW8 (Nat.le_refl _)
      rw [eqF_me] at heq
      obtain ⟨c0, c1, c2, c3, _, _, _, _, hz1⟩ := hby
      obtain ⟨y0, y1, y2, y3, _, _, _, _, hz2⟩ := hbx
      clear hw8 hal hV8 hW8 HV7 HW7 HT7 HU7 HBX7 HB7
      go_wp2_with fail
      refine heq.mono ?_
      rintro e w9 ⟨rfl, hb9⟩
      have HT9 := Lib.hid (HT8.out.grow hb9)
      have HU9 := Lib.hid (HU8.out.grow hb9)
      have HB9 := Lib.hid (HB8.out.trans (hb9.mono HB8.out.size))
      clear hb9 heq c0 c1 c2 c3 y0 y1 y2 y3 hz1 hz2 HT8 HU8 HB8
      obtain ⟨i, hi, hi2, ha0, ha1⟩ := hcase
      have HA0 := Lib.hid ha0
      have HA1 := Lib.hid ha1
      clear ha0 ha1
      go_wp2_with fail
      go_loopw [16] (fun q wr => BlR s u i g g2 W q wr) (fun q _ => (tgL s).length - (intOf q).toNat)
      case atStart => exact ⟨0, rfl, Nat.zero_le _, HB9.out, HT9.out, HU9.out⟩
      case round =>
        clear HB9 HT9 HU9
        obtain ⟨q, rfl, hq, hbr, htr, hur⟩ := hrel
        have hq1 : q < (tgL s).length := by omega
        have hq2 : q < (tgL u).length := by omega
        obtain ⟨c0, c1, c2⟩ := ts_at3 htr hq1
        obtain ⟨y0, y1, y2⟩ := ts_at3 hur hq2
        have HBR := Lib.hid hbr
        have HTR := Lib.hid htr
        have HUR := Lib.hid hur
        have n0 : (0 : Int) ≤ (q : Int) := by omega
        have n1 : (q : Int) < ((tgL s).length : Int) := by omega
        have n3 : (q : Int) < ((tgL u).length : Int) := by omega
        have n2 : decide ((q : Int) < ((tgL s).length : Int)) = true := decide_eq_true n1
        have m10 : IntKind.i64.wrap ((q : Int) + 1) = (q : Int) + 1 := IntWalk.i64_in _ (by omega)
        clear hbr htr hur c0 c1 y0 y1
        by_cases p1 : ((tgL s)[q]).a = at0
        · have m1 : (((tgL s)[q]).a == at0) = true := beq_iff_eq.2 p1
          by_cases p2 : ((tgL u)[q]).a = at1
          · have m2 : (((tgL u)[q]).a == at1) = true := beq_iff_eq.2 p2
            go_wp2_with fail
            go_ret
            exact ⟨rfl, HBR.out⟩
          · have m2 : (((tgL u)[q]).a == at1) = false := beq_eq_false_iff_ne.2 p2
            have hne : q ≠ i := fun e => by subst e; exact p2 HA1.out
            go_wp2_with fail
            exact ⟨⟨q + 1, by go_num, by omega, HBR.out, HTR.out, HUR.out⟩, by simp [intOf]; omega⟩
        · have m1 : (((tgL s)[q]).a == at0) = false := beq_eq_false_iff_ne.2 p1
          have hne : q ≠ i := fun e => by subst e; exact p1 HA0.out
          go_wp2_with fail
          exact ⟨⟨q + 1, by go_num, by omega, HBR.out, HTR.out, HUR.out⟩, by simp [intOf]; omega⟩
    · go_enter Tryd.func5, Tryd.ntmps5
      go_wp2_with fail
      refine HA.out.mono ?_
      rintro e w1 ⟨rfl, hb1⟩
      go_wp2_with fail
      clear d1 d2
      refine (HLX.out w1).mono ?_
      rintro e w2 ⟨g, cap, rfl, hb2, ht2⟩
      have hb2 := hb1.trans (hb2.mono hb1.size)
      have hs1 := HSCH.out s w2 (by omega) hb2
      rw [HX.out] at hs1
      clear hb1
      go_wp2_with fail
      refine hs1.mono ?_
      rintro e w3 ⟨v3, rfl, hv3, hb3⟩
      rw [HFZ.out] at hv3
      have HV3 := Lib.hid hv3
      obtain ⟨a2, k2, a3, k3, rfl, HREST⟩ := hv3
      have ht3 := ht2.grow hb3
      have hb3 := hb2.trans (hb3.mono hb2.size)
      have HZ2 := Lib.hid hb2.size
      clear HREST hs1 hb2 ht2
      go_upto_region 7 with fail
      generalize hw4 : w3.alloc (.cells #[.int .u8 fz.op, .string fz.n, .slice a2 fz.args.length k2, .slice a3 fz.sub.length k3] 25) = w4
      have hal : Below w3.heap.size w3 w4 := by rw [← hw4]; exact (Below.refl _ _).alloc (Nat.le_refl _) _
      have hbx := Bx4.new w3 (.int .u8 fz.op) (.string fz.n) (.slice a2 fz.args.length k2) (.slice a3 fz.sub.length k3) 25
      rw [hw4] at hbx
      have HV4 := Lib.hid (fv_below HV3.out hal)
      have HT4 := Lib.hid (ht3.grow hal)
      have hb4 := hb3.trans (hal.mono hb3.size)
      have HB4 := Lib.hid hb4
      have HBX4 := Lib.hid hbx
      have hj := HJN.out cap w4 _ HT4.out
      clear hw4 hal hbx HV3 ht3 hb3 hb4
      go_wp2_with fail
      refine hj.mono ?_
      rintro e w5 ⟨rfl, hb5⟩
      have HV5 := Lib.hid (fv_below HV4.out hb5)
      have HT5 := Lib.hid (HT4.out.grow hb5)
      have HBX5 := Lib.hid (HBX4.out.heap (hb5.block _ HBX4.out.lt) (Nat.lt_of_lt_of_le HBX4.out.lt hb5.size))
      have HB5 := Lib.hid (HB4.out.trans (hb5.mono HB4.out.size))
      clear hb5 hj HV4 HT4 HBX4 HB4
      go_wp2_with fail
      refine (HLU.out w5).mono ?_
      rintro e w6 ⟨g2, cap2, rfl, hb6, hu6⟩
      have HV6 := Lib.hid (fv_below HV5.out hb6)
      have HT6 := Lib.hid (HT5.out.grow hb6)
      have HBX6 := Lib.hid (HBX5.out.heap (hb6.block _ HBX5.out.lt) (Nat.lt_of_lt_of_le HBX5.out.lt hb6.size))
      have HB6 := Lib.hid (HB5.out.trans (hb6.mono HB5.out.size))
      have HU6 := Lib.hid hu6
      have hs2 := HSCH.out u w6 (by omega) HB6.out
      rw [HY.out] at hs2
      clear hb6 hu6 HV5 HT5 HBX5 HB5
      go_wp2_with fail
      refine hs2.mono ?_
      rintro e w7 ⟨v7, rfl, hv7, hb7⟩
      rw [HFZ.out] at hv7
      have HW7 := Lib.hid hv7
      obtain ⟨b2, j2, b3, j3, rfl, HREST⟩ := hv7
      have HV7 := Lib.hid (fv_below HV6.out hb7)
      have HT7 := Lib.hid (HT6.out.grow hb7)
      have HU7 := Lib.hid (HU6.out.grow hb7)
      have HBX7 := Lib.hid (HBX6.out.heap (hb7.block _ HBX6.out.lt) (Nat.lt_of_lt_of_le HBX6.out.lt hb7.size))
      have HB7 := Lib.hid (HB6.out.trans (hb7.mono HB6.out.size))
      clear HREST hs2 hb7 HV6 HT6 HU6 HBX6 HB6
      go_upto_region 12 with fail
      generalize hw8 : w7.alloc (.cells #[.int .u8 fz.op, .string fz.n, .slice b2 fz.args.length j2, .slice b3 fz.sub.length j3] 25) = w8
      have hal : Below w7.heap.size w7 w8 := by rw [← hw8]; exact (Below.refl _ _).alloc (Nat.le_refl _) _
      have hbx := Bx4.new w7 (.int .u8 fz.op) (.string fz.n) (.slice b2 fz.args.length j2) (.slice b3 fz.sub.length j3) 25
      rw [hw8] at hbx
      have hV8 := fval_fov (fv_below HV7.out hal)
      have hW8 := fval_fov (fv_below HW7.out hal)
      have HT8 := Lib.hid (HT7.out.grow hal)
      have HU8 := Lib.hid (HU7.out.grow hal)
      have hby := HBX7.out.heap (hal.block _ HBX7.out.lt) (Nat.lt_of_lt_of_le HBX7.out.lt hal.size)
      have HB8 := Lib.hid (HB7.out.trans (hal.mono HB7.out.size))
      have heq := eqF_c (SizeOf.sizeOf fz + 1) fz (Nat.lt_succ_self _) fz _ _ _ _ _ _ _ _ w8.heap.size w8 hV8 hW8 (Nat.le_refl _)
      rw [eqF_me] at heq
      obtain ⟨c0, c1, c2, c3, _, _, _, _, hz1⟩ := hby
      obtain ⟨y0, y1, y2, y3, _, _, _, _, hz2⟩ := hbx
      clear hw8 hal hV8 hW8 HV7 HW7 HT7 HU7 HBX7 HB7
      go_wp2_with fail
      refine heq.mono ?_
      rintro e w9 ⟨rfl, hb9⟩
      have HT9 := Lib.hid (HT8.out.grow hb9)
      have HU9 := Lib.hid (HU8.out.grow hb9)
      have HB9 := Lib.hid (HB8.out.trans (hb9.mono HB8.out.size))
      clear hb9 heq c0 c1 c2 c3 y0 y1 y2 y3 hz1 hz2 HT8 HU8 HB8
      obtain ⟨i, hi, hi2, ha0, ha1⟩ := hcase
      have HA0 := Lib.hid ha0
      have HA1 := Lib.hid ha1
      clear ha0 ha1
      go_wp2_with fail
      go_loopw [16] (fun q wr => BlR s u i g g2 W q wr) (fun q _ => (tgL s).length - (intOf q).toNat)
      case atStart => exact ⟨0, rfl, Nat.zero_le _, HB9.out, HT9.out, HU9.out⟩
      case round =>
        clear HB9 HT9 HU9
        obtain ⟨q, rfl, hq, hbr, htr, hur⟩ := hrel
        have hq1 : q < (tgL s).length := by omega
        have hq2 : q < (tgL u).length := by omega
        obtain ⟨c0, c1, c2⟩ := ts_at3 htr hq1
        obtain ⟨y0, y1, y2⟩ := ts_at3 hur hq2
        have HBR := Lib.hid hbr
        have HTR := Lib.hid htr
        have HUR := Lib.hid hur
        have n0 : (0 : Int) ≤ (q : Int) := by omega
        have n1 : (q : Int) < ((tgL s).length : Int) := by omega
        have n3 : (q : Int) < ((tgL u).length : Int) := by omega
        have n2 : decide ((q : Int) < ((tgL s).length : Int)) = true := decide_eq_true n1
        have m10 : IntKind.i64.wrap ((q : Int) + 1) = (q : Int) + 1 := IntWalk.i64_in _ (by omega)
        clear hbr htr hur c0 c1 y0 y1
        by_cases p1 : ((tgL s)[q]).a = at0
        · have m1 : (((tgL s)[q]).a == at0) = true := beq_iff_eq.2 p1
          by_cases p2 : ((tgL u)[q]).a = at1
          · have m2 : (((tgL u)[q]).a == at1) = true := beq_iff_eq.2 p2
            go_wp2_with fail
            go_ret
            exact ⟨rfl, HBR.out⟩
          · have m2 : (((tgL u)[q]).a == at1) = false := beq_eq_false_iff_ne.2 p2
            have hne : q ≠ i := fun e => by subst e; exact p2 HA1.out
            go_wp2_with fail
            exact ⟨⟨q + 1, by go_num, by omega, HBR.out, HTR.out, HUR.out⟩, by simp [intOf]; omega⟩
        · have m1 : (((tgL s)[q]).a == at0) = false := beq_eq_false_iff_ne.2 p1
          have hne : q ≠ i := fun e => by subst e; exact p1 HA0.out
          go_wp2_with fail
          exact ⟨⟨q + 1, by go_num, by omega, HBR.out, HTR.out, HUR.out⟩, by simp [intOf]; omega⟩
end Go.Proofs.YtggkehncpkfakaaDoor.Ps
