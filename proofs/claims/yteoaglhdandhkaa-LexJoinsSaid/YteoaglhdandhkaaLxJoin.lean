/-
  The contract of Join.
-/
import Derived.Test.YteoaglhdandhkaaLxLex
import Derived.Test.YteoaglhdandhkaaLxShelf
namespace Go.Proofs.Yteoaglhdandhkaa.Lx
open Go Go.RowKit Go.Shelf Go.Proofs.Yteoaglhdandhkaa.Fm
set_option linter.unusedVariables false
set_option linter.unusedSimpArgs false
/-- Any tokens: kind, text, place. -/
structure Tg where
  k : Int
  t : ByteArray
  a : Int
def toG (t : Tk) : Tg := ⟨t.k, bs t.t, t.a⟩
def encG (t : Tg) : List Value := [.int .u8 t.k, .string t.t, .int .i64 t.a]
def flatG (ts : List Tg) : List Value := ts.flatMap encG
theorem flatG_toG (ts : List Tk) : flatG (ts.map toG) = flat ts := by
  unfold flatG flat; rw [List.flatMap_map]; rfl
theorem flatG_get : ∀ (ts : List Tg) (i : Nat) (t : Tg), ts[i]? = some t → (flatG ts)[i * 3]? = some (.int .u8 t.k) ∧ (flatG ts)[i * 3 + 1]? = some (.string t.t) ∧ (flatG ts)[i * 3 + 2]? = some (.int .i64 t.a)
  | [], i, t, h => by simp at h
  | u :: r, 0, t, h => by
    obtain rfl : u = t := by simpa using h
    exact ⟨rfl, rfl, rfl⟩
  | u :: r, i + 1, t, h => by
    obtain ⟨h1, h2, h3⟩ := flatG_get r i t (by simpa using h)
    have e : (i + 1) * 3 = i * 3 + 3 := by omega
    rw [e]
    exact ⟨h1, h2, h3⟩
/-- A slice of tokens. -/
structure TsV (w : World) (a : Option Addr) (ts : List Tg) : Prop where
  h : ts = [] ∨ ∃ g o, a = some ⟨g, o, none⟩ ∧ g < w.heap.size ∧ ∀ j u, (flatG ts)[j]? = some u → w.cell? ⟨g, o + j, none⟩ = some u
theorem TsV.below {w w' : World} {a : Option Addr} {ts : List Tg} (h : TsV w a ts) {n : Nat} (hb : Below n w w') (hn : ∀ g o, a = some ⟨g, o, none⟩ → g < n) : TsV w' a ts := by
  rcases h.h with h | ⟨g, o, rfl, h1, h2⟩
  · exact ⟨.inl h⟩
  · exact ⟨.inr ⟨g, o, rfl, Nat.lt_of_lt_of_le h1 hb.size, fun j u hj => (hb.cell (p := ⟨g, o + j, none⟩) (hn g o rfl)).trans (h2 j u hj)⟩⟩
theorem TsV.grow {w w' : World} {a : Option Addr} {ts : List Tg} (h : TsV w a ts) (hb : Below w.heap.size w w') : TsV w' a ts := by
  rcases h.h with h | ⟨g, o, rfl, h1, h2⟩
  · exact ⟨.inl h⟩
  · exact ⟨.inr ⟨g, o, rfl, Nat.lt_of_lt_of_le h1 hb.size, fun j u hj => (hb.cell (p := ⟨g, o + j, none⟩) h1).trans (h2 j u hj)⟩⟩
theorem TsV.get {w : World} {a : Option Addr} {ts : List Tg} (h : TsV w a ts) {i : Nat} (hi : i < ts.length) : ∃ g o, a = some ⟨g, o, none⟩ ∧ g < w.heap.size ∧ w.cell? ⟨g, o + i * 3, none⟩ = some (.int .u8 ts[i].k) ∧ w.cell? ⟨g, o + i * 3 + 1, none⟩ = some (.string ts[i].t) ∧ w.cell? ⟨g, o + i * 3 + 2, none⟩ = some (.int .i64 ts[i].a) := by
  rcases h.h with rfl | ⟨g, o, h0, h1, h2⟩
  · simp at hi
  · obtain ⟨a1, a2, a3⟩ := flatG_get ts i _ (List.getElem?_eq_getElem hi)
    exact ⟨g, o, h0, h1, h2 _ _ a1, h2 _ _ a2, h2 _ _ a3⟩
def txG (ts : List Tg) : List ByteArray := (ts.filter fun t => t.k != 5).map (·.t)
def joinG (ts : List Tg) : ByteArray := ⟨(Lib.join ((txG ts).map (·.data.toList)) [32]).toArray⟩
theorem join_joinB : ∀ l : List Bs, Lib.join l [32] = joinB l
  | [] => rfl
  | [a] => by simp [Lib.join, joinB, List.intercalate]
  | a :: b :: r => by
    have h := join_joinB (b :: r)
    unfold Lib.join at h ⊢
    rw [show joinB (a :: b :: r) = a ++ 32 :: joinB (b :: r) from rfl, ← h]
    simp [List.intercalate]
theorem joinG_toG (ts : List Tk) : joinG (ts.map toG) = bs (join ts) := by
  unfold joinG bs join
  rw [join_joinB]
  congr 2
  unfold txG texts
  rw [List.filter_map, List.map_map, List.map_map]
  have e : ((fun t : Tg => t.k != 5) ∘ toG) = fun t : Tk => t.k != 5 := by
    funext t
    show (((t.k : Nat) : Int) != 5) = (t.k != 5)
    rw [Bool.eq_iff_iff]; simp; omega
  rw [e]
  congr 1
theorem infoT' : (Try.prog.info? 9).map (fun i => (i.zero, i.size, i.bytes)) = some (some (.string ByteArray.empty), 1, 16) := by kernel_rfl
def JnR (ts : List Tg) (w : World) (v i : Value) (wr : World) : Prop := ∃ q : Nat, i = .int .i64 (q : Int) ∧ q ≤ ts.length ∧ Below w.heap.size w wr ∧ wr.ownsRow w.heap.size 9 1 v (txG (ts.take q)).length ((txG (ts.take q)).map .string)
theorem tx_snoc (ts : List Tg) (q : Nat) (h : q < ts.length) : txG (ts.take (q + 1)) = if ts[q].k = 5 then txG (ts.take q) else txG (ts.take q) ++ [ts[q].t] := by
  rw [List.take_succ_eq_append_getElem h]
  unfold txG
  rw [List.filter_append, List.map_append]
  by_cases hk : ts[q].k = 5
  · rw [if_pos hk]; simp [hk]
  · rw [if_neg hk]; simp [hk]
theorem own_cap {w : World} {base n size g cap : Nat} {e : TypeId} {xs : List Value} (h : w.ownsRow base e size (.slice (some ⟨g, 0, none⟩) n cap) n xs) : n ≤ cap := by
  rcases h.2 with ⟨h0, _⟩ | ⟨g', cap', cur, h0, _, _, h3, _⟩
  · cases h0
  · injection h0 with _ _ h1; omega
theorem new_one (w : World) (x : Value) (t : TypeId) : ∀ j u, [x][j]? = some u → (w.alloc (.cells #[x] t)).cell? ((⟨w.heap.size, 0, none⟩ : Addr).add j) = some u := by
  intro j u h
  have e : (⟨w.heap.size, 0, none⟩ : Addr).add j = ⟨w.heap.size, j, none⟩ := by
    unfold Addr.add
    by_cases h0 : j = 0
    · rw [if_pos h0, h0]
    · rw [if_neg h0, Nat.zero_add]
  rw [e, World.cell?_alloc_at _ _ _ _ rfl, ← h]
  simp
set_option maxHeartbeats 2000000 in
set_option maxRecDepth 20000 in
theorem join_c (ts : List Tg) (a : Option Addr) (cap : Nat) (w : World) (h : TsV w a ts) (hn : ts.length ≤ 1000000) (hl : (Lib.join ((txG ts).map (·.data.toList)) [32]).length ≤ 140737488355328) :
    Calls Try.prog 10 #[.slice a ts.length cap] w fun e w' => e = .returned (.string (joinG ts)) ∧ Below w.heap.size w w' := by
  have H := Lib.hid h
  clear h
  go_enter Try.func10, Try.ntmps10
  go_wp2_with fail
  go_loopw [3, 8] (fun v i wr => JnR ts w v i wr) (fun _ i _ => ts.length - (intOf i).toNat)
  case atStart => exact ⟨0, rfl, Nat.zero_le _, Below.refl _ _, World.ownsRow_nil _ _ _ _⟩
  case round =>
    obtain ⟨q, rfl, hq, hbq, hown⟩ := hrel
    by_cases hlt : q < ts.length
    · obtain ⟨g, o, rfl, hg, c0, c1, c2⟩ := (H.out.grow hbq).get hlt
      have n0 : (0 : Int) ≤ (q : Int) := by omega
      have n1 : (q : Int) < (ts.length : Int) := by omega
      have HS := Lib.hid (tx_snoc ts q hlt)
      have HO := Lib.hid hown
      have HB := Lib.hid hbq
      have hlen : (txG (ts.take q)).length ≤ 1000000 := by
        unfold txG
        rw [List.length_map]
        exact Nat.le_trans (List.length_filter_le _ _) (by rw [List.length_take]; omega)
      obtain ⟨d, hd⟩ : ∃ d, txG (ts.take q) = d := ⟨_, rfl⟩
      rw [hd] at hown hlen
      have HD := Lib.hid hd
      clear hbq hd
      by_cases hk : ts[q].k = 5
      · have HK := Lib.hid hk
        clear hown
        go_wp2_with fail
        refine ⟨⟨q + 1, by go_num, by omega, HB.out.alloc HB.out.size _, ?_⟩, by simp [intOf]; omega⟩
        rw [HS.out, if_pos HK.out]
        exact own_below HO.out ((Below.refl _ _).alloc (Nat.le_refl _) _)
      · have dk : (ts[q].k != 5) = true := by simpa using hk
        have dk2 : (ts[q].k == 5) = false := by simpa using hk
        have HK := Lib.hid hk
        have HRW := Lib.hid (fun W (h : Below wr.heap.size wr W) => own_below hown h)
        have HLT := Lib.hid hown.lt
        obtain ⟨i0, hi, hz0, hz1, hz2⟩ := info_parts infoT'
        have hz := HB.out.size
        clear hk hown
        go_wp2_with ((at_builtin; refine wpList_append_lies _ (by rfl) _ _ 38 (by rfl) w.heap.size 9 i0 (.string ByteArray.empty) 1 16 Try.underlying38 hi hz0 hz1 hz2 rfl (by decide) _ d.length (d.map .string) (by rfl) (HRW.out _ (Below.alloc (Below.alloc (Below.refl _ _) (Nat.le_refl _) _) (by simp) _)) ⟨wr.heap.size + 1, 0, none⟩ 1 1 [.string ts[q].t] (by rfl) (by rfl) (by have := new_one (wr.alloc (.cells #[.int .u8 ts[q].k, .string ts[q].t, .int .i64 ts[q].a] 26)) (.string ts[q].t) 9; rw [World.size_alloc] at this; exact this) (by simp [Value.oneCell']) (by decide) (by unfold maxLen; omega) (by omega) (by simp; omega) (wr.heap.size + 2) (by simp) ?_))
        intro g9 k9 w7 hown7 hgrow hat hlt7
        have hb7 : Below w.heap.size wr w7 := Below.grown (((Below.refl w.heap.size wr).alloc hz _).alloc (by simp; omega) _) hgrow (by rw [World.size_alloc, World.size_alloc]; omega) (fun k hk => (HLT.out k hk).1)
        have HO7 := Lib.hid hown7
        have HB7 := Lib.hid hb7
        clear hown7 hgrow hat hb7 HRW
        go_wp2_with fail
        refine ⟨⟨q + 1, by go_num, by omega, HB.out.trans HB7.out, ?_⟩, by simp [intOf]; omega⟩
        rw [HS.out, if_neg HK.out, HD.out, List.length_append, List.map_append]
        exact HO7.out
    · have e : q = ts.length := by omega
      subst e
      rw [List.take_length] at hown
      have HB := Lib.hid hbq
      have HR := Lib.hid (show joinG ts = ⟨(Lib.join ((txG ts).map (·.data.toList)) [32]).toArray⟩ from rfl)
      have hlen : (txG ts).length ≤ 1000000 := by
        unfold txG
        rw [List.length_map]
        exact Nat.le_trans (List.length_filter_le _ _) hn
      generalize txG ts = xs at *
      rcases own_cells hown with ⟨rfl, h0, h1⟩ | ⟨g, kp, rfl, hob, hg1, hg2, hcells⟩
      · obtain rfl : xs = [] := List.eq_nil_of_length_eq_zero h0
        clear hown hbq h1 hl
        go_wp2_with (go_at_call 16; refine (strings_Join_none _ _ _ _).mono ?_; rintro e w' ⟨rfl, rfl⟩)
        go_ret
        exact ⟨by rw [HR.out]; rfl, HB.out⟩
      · have HC := Lib.hid (show ∀ (j : Nat) x, xs[j]? = some x → wr.cell? ⟨g, 0 + j, none⟩ = some (.string x) from fun j x hj => by rw [Nat.zero_add]; exact hcells j _ (by rw [List.getElem?_map, hj]; rfl))
        have HCAP := Lib.hid (own_cap hown)
        have HL := Lib.hid hl
        clear hown hbq hcells hob hl
        go_wp2_with (go_at_call 16; refine (strings_Join g 0 kp xs ⟨#[32]⟩ _ HC.out hg2 (by omega) HCAP.out HL.out).mono ?_; rintro e w1 ⟨rfl, hb1⟩)
        go_ret
        exact ⟨by rw [HR.out]; rfl, HB.out.trans (hb1.mono HB.out.size)⟩
end Go.Proofs.Yteoaglhdandhkaa.Lx
