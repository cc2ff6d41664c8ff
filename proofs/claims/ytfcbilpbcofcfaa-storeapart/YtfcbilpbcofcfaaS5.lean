/- Keys. -/
import Derived.Test.YtfcbilpbcofcfaaS4
import Derived.Maps.RangeWalk
import Derived.Maps.AppendAt
import Derived.Sort.OwnSorted
import Derived.OwnWalk
namespace Go.Proofs.Ytfcbilpbcofcfaa
open Go Go.RowKit Go.Maps Go.Sort
theorem infoStr : (Try.prog.info? 9).map (fun i => (i.zero, i.size, i.bytes)) = some (some (.string ⟨#[]⟩), 1, 16) := by kernel_rfl
/-- Its keys are short. -/
def Kn (f : Fn) : Prop := ∀ k, (f k).1 ≠ 0 → k.length ≤ 1000
theorem kn_do {f : Fn} {u : Up} (h : Kn f) : Kn (doF f u) := fun k hk => by
  unfold doF at hk
  split at hk
  · rename_i e
    have h16 : u.1.size ≤ 16 := by
      rcases Nat.lt_or_ge 16 u.1.size with hx | hx
      · have := e.2
        rw [mayE, if_pos (.inr hx)] at this
        cases this
      · exact hx
    rw [e.1]
    show u.1.data.toList.length ≤ 1000
    rw [Array.length_toList]
    have : u.1.data.size = u.1.size := rfl
    omega
  · exact h k hk
theorem kn_fold (us : List Up) : ∀ f : Fn, Kn f → Kn (us.foldl doF f) := by
  induction us with
  | nil => exact fun f hf => hf
  | cons u us ih => exact fun f hf => ih _ (kn_do hf)
theorem kn_st (us : List Up) : Kn (stF us) := kn_fold us f0 fun _ hk => absurd rfl hk
set_option maxRecDepth 100000 in
set_option maxHeartbeats 1000000 in
theorem keys_any (b m n : Nat) (f : Fn) (ss : List Ky) (hss : KeyL f ss) (hkn : Kn f) (hn : n < 1000000) (w : World) (h : St w b m n f) :
    Calls Try.prog 16 #[.pointer (some ⟨b, 0, none⟩)] w fun e w' => ∃ g cap, e = .returned (.slice (some ⟨g, 0, none⟩) ss.length cap) ∧ w'.ownsRow w.heap.size 9 1 (.slice (some ⟨g, 0, none⟩) ss.length cap) ss.length (ss.map encStr) ∧ Below w.heap.size w w' := by
  obtain ⟨i0, hi, hz0, hz1, hz2⟩ := info_parts infoStr
  obtain ⟨D0, hown, ha, hk0, hl0⟩ := sorted_keys h
  have hsame := hss.eq hk0
  have hmax : Maps.size D0 ≤ n := hown.size_le
  have c : w.cell? ⟨b, 0, none⟩ = some (.map (some m)) := h.c
  have hbl := h.lt
  have hml := hown.lt
  have HK : Hid (∀ x : Ky, Maps.has D0 (.string x) = true → x.length ≤ 1000) := fun x hx => hkn x (by have := ha.told x; rw [hx] at this; simpa using this.symm)
  have HS := Lib.hid hsame
  clear h hk0 hss ha hkn hsame hl0
  go_enter Try.func16, Try.ntmps16
  go_wp2_with (first
    | (at_len; refine wpList_len_own _ rfl _ 43 rfl 9 33 Try.underlying43 _ m n _ rfl hown ?_)
    | (at_make; refine wpList_make_own _ rfl _ _ 37 rfl w.heap.size 9 i0 (.string ⟨#[]⟩) 1 Try.underlying37 hi hz0 hz1 _ _ _ (Maps.size D0) rfl rfl rfl (by rw [hz2]; omega) (by unfold maxLen; omega) (Nat.le_refl _) ?_; intro w1 hrow1 hg1; have c1 : w1.cell? ⟨b, 0, none⟩ = some (.map (some m)) := hg1.cell c (by simp))
    | (at_range; refine wpList_range_own _ rfl _ 43 rfl 9 33 law Try.underlying43 _ m n _ rfl (hown.kept hg1 (by simp)) ?_; intro w0 hrg0 hg0 hs0)
    | go_in)
  go_frame
  go_loopw [3] (fun v wr => ∃ (left : Lit → Bool) (cnt : Nat) (ts : List Ky), wr.ranges Try.prog 9 vR m w1.heap.size n D0 left cnt ∧ ts.length + cnt ≤ Maps.size D0 ∧
      wr.ownsRow w.heap.size 9 1 v ts.length (ts.map encStr) ∧ v ≠ .slice none 0 0 ∧ Collected D0 left ts ∧ Below w.heap.size w wr)
    (fun _ wr => wr.rangeLeft m w1.heap.size)
  case atStart =>
    exact ⟨_, _, [], hrg0, by simp, hrow1.kept hg0 (Or.inr (by simp [Value.ownBlock])), by simp, Collected.start D0,
      ((Below.refl _ _).grown hg1 (Nat.le_refl _) (fun j hj => by cases hj)).grown hg0 hg1.size (fun j hj => by cases hj)⟩
  case round =>
    obtain ⟨left, cnt, ts, hrg, hcs, hrow, hnn, hC, hnx⟩ := hrel
    go_wp2_with (first
      | (at_next; refine wpList_next_ranges _ rfl _ rfl 9 law vR encStr vv (fun key kl hk => by obtain ⟨x, hx, _⟩ := Maps.keyOf_str Try.underlying9 hk; exact ⟨x, hx⟩) (fun v y hv => by obtain ⟨c, rfl, _⟩ := vR_inv hv; exact ⟨c, rfl⟩) m w1.heap.size n _ _ _ rfl hrg ?_ ?_)
      | go_in)
    · intro hc0 hl0
      rcases hrow.2 with ⟨hnil, _⟩ | ⟨g, cap, cur, rfl, hbase, hb, h1, h2, h3, h4⟩
      · exact absurd hnil hnn
      have hH : Holds encStr wr g 0 ts.toArray := holds_of_block hb (by simpa using h4)
      have hgl : g < wr.heap.size := (Array.getElem?_eq_some_iff.1 hb).1
      have hc := sort_any g cap ts wr hH hgl (by omega)
      have hperm := hC.perm hown law Try.underlying9 hl0
      have hfin : ts.mergeSort (fun x y => decide (x ≤ y)) = ss := by rw [HS.out]; exact mergeSort_of_perm hperm
      have hlen : ts.length = ss.length := by rw [← hfin, List.length_mergeSort]
      have HF := Lib.hid hfin
      have HL := Lib.hid hlen
      clear hfin hlen hperm
      go_wp2_with (go_at_call 26; refine hc.mono ?_; rintro e w' ⟨rfl, nn, os, rfl⟩)
      go_ret
      refine ⟨g, cap, by rw [HL.out]; rfl, ?_, hnx.grown (grownBy_sorted _) hnx.size (fun j hj => by cases hj; exact hbase)⟩
      rw [HF.out, ← HL.out]
      exact ownsRow_sorted HL.out.symm hbase hb h1 h2 h3
    · intro x ck cn cs kl yd yp w2 cnt2 hkey hlk hv hat hrg2 hlt hg2 hs2 hen
      obtain ⟨x', ex, rfl, _⟩ := Maps.keyOf_str Try.underlying9 hkey
      obtain rfl : x = x' := encStr_inj ex
      have hxl : x.length ≤ 1000 := HK.out x (has_true_of_atKey hat)
      have hrow2 := hrow.kept hg2 (Or.inr (row_ne_iter hrow hrg).symm)
      have HCl := fun w => Lib.hid (clone_any ⟨x.toArray⟩ (by show x.toArray.size ≤ _; simp; omega) w)
      have hnx2 := hnx.grown hg2 hnx.size (fun j hj => by cases hj; exact hg1.size)
      clear hs2 hv
      go_wp2_with fail
      refine (HCl _).out.mono ?_
      rintro e w3 ⟨rfl, hb3⟩
      have hrow3 := hrow2.kept (grown_of none hb3) (Classical.em _)
      have hrg3 := hrg2.kept (grown_of none hb3) (by simp) (by simp)
      have hnx3 := hnx2.trans (hb3.mono hnx2.size)
      have hsz := hnx3.size
      clear hb3 hnx2 hrow2
      go_wp2_with (first
        | (at_builtin; refine wpList_append_own _ rfl _ _ 37 rfl w.heap.size 9 i0 (.string ⟨#[]⟩) 1 16 Try.underlying37 hi hz0 hz1 hz2 rfl (by decide) _ _ _ rfl (hrow3.alloc _) ⟨w3.heap.size, 0, none⟩ 1 1 [encStr x] rfl rfl (cell_one_new _ _ _) (by simp [Value.oneCell', encStr]) (by unfold maxLen at *; omega) (by omega) (by simp; omega) ?_; intro v' w4 hown' hg4 hnil4; go_frame)
        | go_in)
      have hrg4 := (hrg3.alloc _).kept hg4 (row_ne_low hrow3 hml) (row_ne_iter hrow3 hrg3)
      go_roundw
      case rel =>
        refine ⟨_, cnt2, ts ++ [x], hrg4, by simp; omega, by simpa using hown', fun hv' => by have := (hnil4.1 hv').2; omega, hC.step hlk hat, ?_⟩
        exact (hnx3.alloc (by omega) _).grown hg4 (by simp; omega) (fun j hj => (hrow3.lt j hj).1)
      case measure => rw [hrg4.left_eq, hrg.left_eq]; exact hlt
end Go.Proofs.Ytfcbilpbcofcfaa
