/- slices.Delete of one packet; Take. -/
import Derived.Test.YtjnjpphbclepbaaH1
import Derived.Deep.RegionLaw
import Derived.ArgAppend
import Derived.Lib.SliceRun
namespace Go.Proofs.Ytjnjpphbclepbaa
open Go Go.RowKit
set_option maxRecDepth 20000
/-- Cells stored one behind the other: what the block holds then. -/
theorem setCells_at : ∀ (vs : List Value) (w : World) (b o : Nat) (cur : Array Value) (t : TypeId) (fr : Nat × Nat), w.heap[b]? = some (.cells cur t fr) → o + vs.length ≤ cur.size →
    ∃ cur', (w.setCells b o vs).heap[b]? = some (.cells cur' t fr) ∧ cur'.size = cur.size ∧ (∀ j, j < o → cur'[j]? = cur[j]?) ∧ (∀ j, j < vs.length → cur'[o + j]? = vs[j]?) ∧ (∀ j, o + vs.length ≤ j → cur'[j]? = cur[j]?)
  | [], w, b, o, cur, t, fr, h, _ => ⟨cur, h, rfl, fun _ _ => rfl, fun j hj => absurd hj (by simp), fun _ _ => rfl⟩
  | x :: vs, w, b, o, cur, t, fr, h, hs => by
    rw [List.length_cons] at hs
    have e : w.setCells b o (x :: vs) = (w.setCell ⟨b, o, none⟩ x).setCells b (o + 1) vs := rfl
    have h1 : (w.setCell ⟨b, o, none⟩ x).heap[b]? = some (.cells (cur.setIfInBounds o x) t fr) := by simp [World.setCell, Array.getElem?_modify, h]
    obtain ⟨cur', h2, h3, h4, h5, h6⟩ := setCells_at vs (w.setCell ⟨b, o, none⟩ x) b (o + 1) _ t fr h1 (by simp; omega)
    rw [e]
    refine ⟨cur', h2, by simpa using h3, fun j hj => ?_, fun j hj => ?_, fun j hj => ?_⟩
    · rw [h4 j (by omega), Array.getElem?_setIfInBounds, if_neg (by omega)]
    · cases j with
      | zero => rw [Nat.add_zero, h4 o (by omega), Array.getElem?_setIfInBounds, if_pos rfl, if_pos (by omega)]; rfl
      | succ j =>
        rw [List.length_cons] at hj
        rw [show o + (j + 1) = o + 1 + j by omega, h5 j (by omega), List.getElem?_cons_succ]
    · rw [List.length_cons] at hj
      rw [h6 j (by omega), Array.getElem?_setIfInBounds, if_neg (by omega)]
theorem flK_take (l : List Pk) (k : Nat) (hk : k ≤ l.length) : flK (l.take k) = (flK l).take (k * 4) := by
  have e : flK l = flK (l.take k) ++ flK (l.drop k) := by rw [← flK_app, List.take_append_drop]
  have hl : (flK (l.take k)).length = k * 4 := by rw [flK_len, List.length_take]; omega
  rw [e, ← hl, List.take_left]
theorem flK_drop (l : List Pk) (k : Nat) (hk : k ≤ l.length) : flK (l.drop k) = (flK l).drop (k * 4) := by
  have e : flK l = flK (l.take k) ++ flK (l.drop k) := by rw [← flK_app, List.take_append_drop]
  have hl : (flK (l.take k)).length = k * 4 := by rw [flK_len, List.length_take]; omega
  rw [e, ← hl, List.drop_left]
theorem flK_erase (l : List Pk) (k : Nat) (hk : k < l.length) : flK (l.eraseIdx k) = (flK l).take (k * 4) ++ (flK l).drop ((k + 1) * 4) := by
  rw [List.eraseIdx_eq_take_drop_succ, flK_app, flK_take l k (by omega), flK_drop l (k + 1) (by omega)]
theorem infoK : (Try.prog.info? 60).map (fun i => (i.zero, i.size, i.bytes)) = some (some (.agg #[.int .i64 0, .int .i64 0, .string ⟨#[]⟩, .bool false]), 4, 40) := by kernel_rfl
def zK : List Value := [.int .i64 0, .int .i64 0, .string ⟨#[]⟩, .bool false]
/-- One packet cleared. -/
theorem run_clearK (w : World) (g off c : Nat) (cur : Array Value) (hg : w.heap[g]? = some (.cells cur 60 (0, 0))) (hs : off + 4 ≤ cur.size) :
    (∀ ty, (Builtin.clear_ #[51] ty #[.slice (some ⟨g, off, none⟩) 1 c]).run Try.prog w = .ok (.tuple #[]) (w.setCells g off zK)) ∧ (∃ cur', (w.setCells g off zK).heap[g]? = some (.cells cur' 60 (0, 0)) ∧ cur'.size = cur.size ∧ ∀ j, j < off → cur'[j]? = cur[j]?) ∧ w.grownBy (w.setCells g off zK) (some g) := by
  have h1 : ∀ u ∈ zK, u.oneCell' = true := by
    intro u hu
    simp only [zK, List.mem_cons, List.not_mem_nil, or_false] at hu
    rcases hu with rfl | rfl | rfl | rfl <;> rfl
  have hst := run_storeCells_cells (P := Try.prog) g off zK 0 w
    (fun j hj => by
      rw [cell_of_row w g _ cur _ _ hg]
      simp [zK] at hj
      simp; omega)
    (fun j _ => by simp [World.frozen?, hg]) h1
  obtain ⟨cur', r1, r2, r3, _, _⟩ := setCells_at zK w g off cur _ _ hg (by simpa [zK] using hs)
  refine ⟨fun ty => ?_, ⟨cur', r1, r2, r3⟩, (setCells_row _ w g off cur _ _ hg).2⟩
  have hz : (Value.agg #[.int .i64 0, .int .i64 0, .string ⟨#[]⟩, .bool false]).cells = #[.int .i64 0, .int .i64 0, .string ⟨#[]⟩, .bool false] := rfl
  have hzc : (Builtin.zeroCells (#[.int .i64 0, .int .i64 0, .string ⟨#[]⟩, .bool false] : Array Value) 1).toList = zK := by
    simp [Builtin.zeroCells, zK]
    rfl
  rw [Nat.add_zero] at hst
  simp [Builtin.clear_, run_underlying Try.underlying51, hz, hzc, hst]
set_option maxHeartbeats 4000000 in
theorem delete_any {B g c n : Nat} {l : List Pk} (k : Nat) (hk : k < n) (hn : n = l.length) (w : World) (h : RowK B w (.slice (some ⟨g, 0, none⟩) n c) l) (hle : n ≤ 4096) :
    Calls Try.prog 26 #[.slice (some ⟨g, 0, none⟩) n c, .int .i64 (k : Int), .int .i64 ((k : Int) + 1)] w fun e w' => e = .returned (.slice (some ⟨g, 0, none⟩) (n - 1) c) ∧ RowK B w' (.slice (some ⟨g, 0, none⟩) (n - 1) c) (l.eraseIdx k) ∧ w.grownBy w' (some g) := by
  obtain ⟨i0, hi0, hz0, hz1, hz2⟩ := info_parts infoK
  obtain ⟨cur, hlo, hg, hnc, hcm, hcs, htk⟩ : ∃ cur, B ≤ g ∧ w.heap[g]? = some (.cells cur 60 (0, 0)) ∧ n ≤ c ∧ c ≤ maxLen ∧ cur.size = c * 4 ∧ cur.toList.take (n * 4) = flK l := by
    subst hn
    rcases h.2 with ⟨h0, _⟩ | ⟨g', cap, cur, hv, hlo, hg, hc, hm, hs, ht⟩
    · cases h0
    · cases hv; exact ⟨cur, hlo, hg, hc, hm, hs, ht⟩
  have hcurj : ∀ j, j < n * 4 → cur[j]? = (flK l)[j]? := fun j hj => by rw [← htk, List.getElem?_take, if_pos hj, Array.getElem?_toList]
  obtain ⟨news, hnews⟩ : ∃ news, news = (flK l).drop ((k + 1) * 4) := ⟨_, rfl⟩
  have hlen : news.length = (n - (k + 1)) * 4 := by rw [hnews, List.length_drop, flK_len]; omega
  have hget : ∀ j, j < (n - (k + 1)) * 4 → news[j]? = cur[(k + 1) * 4 + j]? := fun j hj => by rw [hnews, List.getElem?_drop, hcurj _ (by omega)]
  obtain ⟨A, hA, hsrc⟩ : ∃ A : Addr, (if c = k + 1 then some (⟨g, 0, none⟩ : Addr) else some ⟨g, (k + 1) * 4, none⟩) = some A ∧ Hid (∀ j u, news[j]? = some u → w.drew.cell? (A.add j) = some u) := by
    by_cases hx : c = k + 1
    · refine ⟨⟨g, 0, none⟩, by simp [hx], fun j u hu => ?_⟩
      have h0 : news.length = 0 := by rw [hlen]; omega
      rw [List.length_eq_zero_iff.1 h0] at hu
      simp at hu
    · refine ⟨⟨g, (k + 1) * 4, none⟩, by simp [hx], fun j u hu => ?_⟩
      have hj : j < (n - (k + 1)) * 4 := by
        have := (List.getElem?_eq_some_iff.1 hu).1
        rwa [hlen] at this
      rw [hget j hj] at hu
      rw [Addr.add_lit]
      show w.cell? _ = _
      rw [cell_of_row w g _ cur _ _ hg]
      exact hu
  have s1 : Hid (news.length = (n - (k + 1)) * 4) := hlen
  have s2 : Hid (∀ u ∈ news, u.oneCell' = true) := fun u hu => flK_one l u (by rw [hnews] at hu; exact List.mem_of_mem_drop hu)
  have s3 : Hid (∀ j, j < news.length → (w.drew.cell? ⟨g, 0 + k * 4 + j, none⟩).isSome = true ∧ w.drew.frozen? ⟨g, 0 + k * 4 + j, none⟩ = false) := by
    intro j hj
    rw [hlen] at hj
    refine ⟨?_, unfrozen_at hg _⟩
    show (w.cell? _).isSome = true
    rw [cell_of_row w g _ cur _ _ hg]
    simp; omega
  obtain ⟨W1, hW1⟩ : ∃ W1, W1 = w.drew.setCells g (0 + k * 4) news := ⟨_, rfl⟩
  obtain ⟨cur1, c1, c2, c3, c4, c5⟩ := setCells_at news w.drew g (0 + k * 4) cur _ _ (show w.drew.heap[g]? = _ from hg) (by rw [hlen, hcs]; omega)
  rw [← hW1] at c1
  obtain ⟨hcl, ⟨cur2, d1, d2, d3⟩, d4⟩ := run_clearK W1 g ((n - 1) * 4) (c - (n - 1)) cur1 c1 (by rw [c2, hcs]; omega)
  have hgr : w.grownBy (W1.setCells g ((n - 1) * 4) zK) (some g) := by
    have q : w.grownBy W1 (some g) := by
      have := (setCells_row news w.drew g (0 + k * 4) cur _ _ (show w.drew.heap[g]? = _ from hg)).2
      rw [← hW1] at this
      exact ⟨this.os, this.tape, this.output, this.size, this.block⟩
    exact World.grownBy.trans q d4
  have hrow : RowK B (W1.setCells g ((n - 1) * 4) zK) (.slice (some ⟨g, 0, none⟩) (n - 1) c) (l.eraseIdx k) := by
    have hel : (l.eraseIdx k).length = n - 1 := by rw [List.length_eraseIdx, if_pos (by omega), hn]
    unfold RowK
    rw [hel]
    refine ⟨by rw [flK_len, hel], .inr ⟨g, c, cur2, rfl, hlo, d1, by omega, hcm, by rw [d2, c2, hcs], ?_⟩⟩
    apply List.ext_getElem?
    intro j
    rw [List.getElem?_take]
    by_cases hj : j < (n - 1) * 4
    · rw [if_pos hj, Array.getElem?_toList, d3 j hj, flK_erase l k (by omega)]
      have hl0 : ((flK l).take (k * 4)).length = k * 4 := by rw [List.length_take, flK_len]; omega
      by_cases hjk : j < k * 4
      · rw [c3 j (by omega), List.getElem?_append_left (by omega), List.getElem?_take, if_pos hjk, hcurj j (by omega)]
      · rw [List.getElem?_append_right (by omega), hl0, ← hnews]
        have := c4 (j - k * 4) (by rw [hlen]; omega)
        rw [show 0 + k * 4 + (j - k * 4) = j by omega] at this
        exact this
    · rw [if_neg hj, List.getElem?_eq_none (by rw [flK_len, hel]; omega)]
  have HROW := Lib.hid hrow
  have HGR := Lib.hid hgr
  have hcl' : ∀ ty, (Builtin.clear_ #[51] ty #[.slice (some ⟨g, (k + (n - (k + 1))) * 4, none⟩) (n - (k + (n - (k + 1)))) (c - (k + (n - (k + 1))))]).run Try.prog W1 = .ok (.tuple #[]) (W1.setCells g ((n - 1) * 4) zK) := by
    rw [show k + (n - (k + 1)) = n - 1 by omega, show n - (n - 1) = 1 by omega]
    exact hcl
  have HE : Hid (k + (n - (k + 1)) = n - 1) := Lib.hid (by omega)
  have hW : Hid (W1 = w.drew.setCells g (0 + k * 4) news) := hW1
  have hic : k ≤ c := by omega
  have hjc : k + 1 ≤ c := by omega
  have hwr : IntKind.i64.wrap ((k : Int) + 1) = (k : Int) + 1 := i64_id (by omega) (by omega)
  have q1 : decide ((k : Int) = (k : Int) + 1) = false := decide_eq_false (by omega)
  have q2 : ((k : Int) + 1).toNat = k + 1 := by omega
  have q3 : (0 : Int) ≤ (k : Int) + 1 := by omega
  have q4 : (k : Int) + 1 ≤ (n : Int) := by omega
  have q5 : (k : Int) ≤ (k : Int) + 1 := by omega
  clear h htk hcurj hnews hlen hget hW1 c1 c2 c3 c4 c5 d1 d2 d3 d4 hgr hrow hcl hg hcs hn
  go_enter Try.func26, Try.ntmps26
  go_wp2_with fail
  go_region_law (refine step_append_room rfl (.tmp 22) (.tmp 25) 51 rfl 60 i0 4 Try.underlying51 hi0 hz1 g 0 k c (by simp [Act.eval, Act.put]) A (n - (k + 1)) (c - (k + 1)) news (by simp [Act.eval, Act.put]) s1.out hsrc.out s2.out (by omega) s3.out ?_; rw [← hW.out])
  go_wp2
  go_ret
  exact ⟨by rw [HE.out]; rfl, HROW.out, HGR.out⟩
set_option maxHeartbeats 1600000 in
theorem take_out (i : Int) {B b : Nat} {v : Value} {l : List Pk} (hi : ¬ (0 ≤ i ∧ i < (l.length : Int))) (w : World) (h : Bk B w b v l) : Calls Try.prog 16 #[.pointer (some ⟨b, 0, none⟩), .int .i64 i] w fun x w' => x = .returned (.tuple #[pv pk0, .bool false]) ∧ Below w.heap.size w w' := by
  have HA := fun W hW => Lib.hid (at_out (B := B) (b := b) (v := v) i hi W hW)
  have HKK := fun o => Lib.hid (h.alloc o)
  clear h hi
  have HN : (⟨#[]⟩ : ByteArray) = emp := rfl
  unfold pv pk0 at *
  simp only at HA ⊢
  go_enter Try.func16, Try.ntmps16
  go_wp2_with fail
  refine (HA _ (HKK _).out).out.mono ?_
  rintro e w1 ⟨rfl, hb⟩
  have hr := kept_at (new_at (n := w.heap.size) rfl) hb
  have HB := Lib.hid ((Joins.below_alloc1 w _).trans (hb.mono (by simp)))
  have e0 := fun o => cell_at (old_at (o := o) hr) 0 (.int .i64 0) rfl
  have e1 := fun o => cell_at (old_at (o := o) hr) 1 (.int .i64 0) rfl
  have e2 := fun o => cell_at (old_at (o := o) hr) 2 (.string ⟨#[]⟩) rfl
  have f0 := fun o => unfrozen_at (old_at (o := o) hr) 0
  have f1 := fun o => unfrozen_at (old_at (o := o) hr) 1
  have f2 := fun o => unfrozen_at (old_at (o := o) hr) 2
  have hbs := HB.out.size
  clear hb hr HA HKK
  go_wp2
  refine bodyPost_ret (v := .tuple #[.agg #[.int .i64 0, .int .i64 0, .string emp], .bool false]) (by simp [results, Try.results16, go_sem, e0, e1, e2]) rfl ⟨rfl, ?_⟩
  exact below_set3 (HB.out.alloc hbs _) (Nat.le_refl _) _ _ _
end Go.Proofs.Ytjnjpphbclepbaa
