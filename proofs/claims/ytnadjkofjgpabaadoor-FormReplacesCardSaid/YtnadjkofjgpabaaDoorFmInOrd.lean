/-
  The contract of inOrder: slices.SortFunc at symbols, then slices.Compact.
-/
import Derived.Test.YtnadjkofjgpabaaDoorFmPred
import Derived.Test.YtnadjkofjgpabaaDoorFmShelf
import Derived.Sort.LotA
import Derived.Shelf.SlicesQ.Reverse
namespace Go.Proofs.YtnadjkofjgpabaaDoor.Fm
open Go Go.RowKit Go.Shelf Go.Proofs
set_option linter.unusedVariables false
set_option linter.unusedSimpArgs false
theorem flat_get : ∀ (d : List Sy) (j : Nat), j < d.length * 2 → (d.flatMap encSy)[j]? = some ((encSy d[j / 2]!)[j % 2]!)
  | [], j, h => by simp at h
  | x :: r, 0, h => by simp [encSy]
  | x :: r, 1, h => by simp [encSy]
  | x :: r, j + 2, h => by
    have h1 := flat_get r j (by simp at h; omega)
    rw [List.flatMap_cons, show encSy x = [.string x.1, .int .i64 x.2] from rfl, show (j + 2) / 2 = j / 2 + 1 by omega, show (j + 2) % 2 = j % 2 by omega]
    simpa using h1
theorem holds_of_own {w : World} {B g cap : Nat} {d : List Sy} (h : w.ownsRow B 55 2 (.slice (some ⟨g, 0, none⟩) d.length cap) d.length (d.flatMap encSy)) : Go.Sort.HoldsK encSy 2 w g 0 d.toArray := by
  intro j hj
  have hj' : j < d.length * 2 := by simpa using hj
  rw [Nat.zero_add]
  refine ⟨?_, ?_⟩
  · rw [h.cellAt j hj', flat_get d j hj', Go.Sort.get_flatK _ _ _ _ (by simpa using hj')]
    simp
  · rcases h.2 with ⟨hv, _⟩ | ⟨g', cap', cur, hv, _, hg, _⟩
    · cases hv
    · injection hv with hv
      injection hv with hv
      injection hv with hv
      subst hv
      simp [World.frozen?, hg]
theorem row_of_holds {w : World} {g : Nat} {d : List Sy} (h : Go.Sort.HoldsK encSy 2 w g 0 d.toArray) (hg : g < w.heap.size) : RowS w g 0 d := by
  refine ⟨hg, fun j hj => ?_⟩
  have hc := Go.Proofs.HoldsK.cells h (fun _ => rfl) (i := j) (by simpa using hj)
  have e : d.toArray[j]! = d[j] := by simp [getElem!_pos, hj]
  rw [e] at hc
  exact ⟨by have := hc 0 _ rfl; rwa [Addr.add_lit, Nat.add_zero] at this, by have := hc 1 _ rfl; rwa [Addr.add_lit] at this⟩
theorem sort_c (B g cap : Nat) (d : List Sy) (w : World) (hown : w.ownsRow B 55 2 (.slice (some ⟨g, 0, none⟩) d.length cap) d.length (d.flatMap encSy)) (hsz : d.length ≤ 1099511627776) :
    Calls Tryd.prog 70 #[.slice (some ⟨g, 0, none⟩) d.length cap, .func (.func 71) #[] #[]] w fun e w' => e = .returned (.tuple #[]) ∧ RowS w' g 0 (srt d) ∧ Grow (fun b => b = g) w w' := by
  have hlt : g < w.heap.size := (hown.lt g rfl).2
  have hcon := Go.Proofs.AnyQ.slices_SortFunc sortSy 2 Tryd.isAgg55 Tryd.sizeOf55 encSy (fun _ => rfl) (fun x v hv => by simp [encSy] at hv; rcases hv with rfl | rfl <;> rfl) cmpSy sy_swo 71 #[] g 0 cap d.toArray w
    (enters_of Tryd.func71 (by kernel_rfl) rfl) (fun m os dk _ x y => cmpSy_c x y _) (holds_of_own hown) hlt (by simp; omega)
  change Calls Tryd.prog 70 _ _ _ at hcon
  rw [List.size_toArray] at hcon
  refine hcon.mono ?_
  rintro e w' ⟨rfl, d', n, os, hp, hs, hw⟩
  have he := Go.Sort.sorted_unique_holds sy_swo sy_apart d.toArray d' hp hs
  have hK : Go.Proofs.SWK encSy 2 w g 0 d' w' := ⟨n, os, hw⟩
  have hs' : d'.size = d.toArray.size := hp.1
  have hh := hK.holds hlt (holds_of_own hown) hs'
  have he' : d' = (srt d).toArray := by rw [← Array.toArray_toList (xs := d'), he]; rfl
  rw [he'] at hh
  refine ⟨rfl, row_of_holds hh (hK.lt hlt), ?_⟩
  subst hw
  refine ⟨rfl, rfl, rfl, hK.le, fun k hk hne => ?_⟩
  unfold Go.Proofs.sortWorldK Go.Sort.putRowK Go.Sort.putRow
  rw [Go.Sort.heap_grow_old]
  · have : g ≠ k := fun e => hne e.symm
    simp [Go.Sort.mapBlock, Go.Sort.ahead, Array.getElem?_modify, this]
  · simp [Go.Sort.mapBlock, Go.Sort.ahead]; exact hk
theorem len_none (w : World) : Calls Tryd.prog 85 #[.int .u64 0] w fun e w' => e = .returned (.int .i64 ((Lib.bitLen 0 : Nat) : Int)) ∧ w' = w := by
  have h := Any.bits_Len (SlLaysF0.n15.bits (P := Tryd.prog) (ρ := sortSy_ren) { sortSy with }) 0 w (by omega) (by omega)
  exact h
theorem ins_none (w : World) (fv : Value) : Calls Tryd.prog 90 #[.slice none 0 0, .int .i64 0, .int .i64 0, fv] w fun e w' => e = .returned (.tuple #[]) ∧ w = w' := by
  go_enter Tryd.func90, Tryd.ntmps90
  go_wp2
  refine wp_loop_rounds 1 ?_
  rw [rounds_succ]
  go_wp2
  go_end0
  exact ⟨rfl, rfl⟩
theorem pdq_none (w : World) (n : Int) (fv : Value) : Calls Tryd.prog 84 #[.slice none 0 0, .int .i64 0, .int .i64 0, .int .i64 n, fv] w fun e w' => e = .returned (.tuple #[]) ∧ w = w' := by
  go_enter Tryd.func84, Tryd.ntmps84
  go_wp2
  refine wp_loop_rounds 1 ?_
  rw [rounds_succ]
  go_wp2_with (go_at_call 90; refine (ins_none _ _).mono ?_; rintro e w' ⟨rfl, rfl⟩)
  (try simp only [Exit.inBlock, Exit.then])
  refine bodyPost_ret (results_none rfl _ _ _) rfl ?_
  exact ⟨rfl, rfl⟩
theorem sort_none (w : World) (fv : Value) : Calls Tryd.prog 70 #[.slice none 0 0, fv] w fun e w' => e = .returned (.tuple #[]) ∧ w = w' := by
  go_enter Tryd.func70, Tryd.ntmps70
  go_wp2_with (first | (go_at_call 85; refine (len_none _).mono ?_; rintro e w' ⟨rfl, rfl⟩) | (go_at_call 84; refine (pdq_none _ _ _).mono ?_; rintro e w' ⟨rfl, rfl⟩))
  go_end0
  exact ⟨rfl, rfl⟩
theorem compact_none (w : World) : Calls Tryd.prog 72 #[.slice none 0 0] w fun e w' => e = .returned (.slice none 0 0) ∧ w = w' := by
  go_enter Tryd.func72, Tryd.ntmps72
  go_wp2
  go_ret
  exact ⟨rfl, rfl⟩
theorem inOrder_c : InOrd := by
  intro B v d w hown hsz hA
  rcases own_cells hown with ⟨rfl, h0, _⟩ | ⟨g, cap, rfl, hob, hg1, hg2, hcells⟩
  · obtain rfl : d = [] := List.eq_nil_of_length_eq_zero h0
    clear hown hsz hA h0
    go_enter Tryd.func49, Tryd.ntmps49
    go_wp2_with (first | (go_at_call 70; refine (sort_none _ _).mono ?_; rintro e w' ⟨rfl, rfl⟩) | (go_at_call 72; refine (compact_none _).mono ?_; rintro e w' ⟨rfl, rfl⟩))
    go_ret
    exact ⟨none, 0, by rw [show srt [] = [] by unfold srt; simp]; rfl, .inl rfl, Grow.refl _ _⟩
  · have HS := Lib.hid (sort_c B g cap d w hown hsz)
    have hl : (srt d).length = d.length := List.length_mergeSort _
    have HL := Lib.hid hl
    have HA := Lib.hid hA
    clear hown hcells hA hl
    go_enter Tryd.func49, Tryd.ntmps49
    go_wp2_with fail
    refine HS.out.mono ?_
    rintro e w1 ⟨rfl, hr, hG⟩
    have HR := Lib.hid hr
    have HG := Lib.hid hG
    have HC := Lib.hid (show Calls Tryd.prog 72 #[.slice (some ⟨g, 0, none⟩) d.length cap] w1 fun e w' => e = .returned (.slice (some ⟨g, 0, none⟩) d.length cap) ∧ Below w1.heap.size w1 w' by
      have h := compact_c g 0 cap (srt d) w1 hr (by rw [HL.out]; omega) HA.out
      rwa [HL.out] at h)
    clear hr hG
    go_wp2_with fail
    refine HC.out.mono ?_
    rintro e w2 ⟨rfl, hb⟩
    have HB := Lib.hid hb
    clear hb
    go_wp2_with fail
    go_ret
    exact ⟨some ⟨g, 0, none⟩, cap, by rw [HL.out]; rfl, .inr ⟨g, rfl, hob, HR.out.below HB.out⟩, (HG.out.mono fun b _ h => by rw [hob, h]).trans (Grow.of_below HB.out) (Sub.refl _ _)⟩
end Go.Proofs.YtnadjkofjgpabaaDoor.Fm
