/- Slices of rounds; rows of rounds that the call made; From, both. -/
import Derived.Test.YtbbgibekplfacaaDoorRH
import Derived.Test.YtbbgibekplfacaaDoorI6
import Derived.Test.YtbbgibekplfacaaDoorI3
namespace Go.Proofs.YtbbgibekplfacaaDoor
open Go Go.RowKit
set_option maxRecDepth 20000
theorem slR_back (a : Option Addr) (len cap n : Nat) (h : n ≤ len) (w : World) : (Instr.sliceAt 40 (.slice a len cap) (some (.int .i64 n)) none none).run Tryd.prog w = .ok (.slice (if cap = n then a else a.map (·.add (n * 3))) (len - n) (cap - n)) w := by
  rw [run_sliceAt_slice _ _ _ _ _ _ Tryd.underlying40]
  simp [Instr.slice, Instr.sliceBounds, Instr.sliceBound, asIntOf, run_underlying Tryd.underlying40, go_sem]
  first | done | (intro hx; omega)
theorem IsRs.back {w : World} {a : Option Addr} {len cap : Nat} {rs : List Rn} (h : IsRs w a len rs) (hlc : len ≤ cap) {n : Nat} (hn : n ≤ len) : IsRs w (if cap = n then a else a.map (·.add (n * 3))) (len - n) (rs.drop n) := by
  have hs := h.size
  refine ⟨by rw [List.length_drop]; omega, fun h0 => ?_, fun r hr => h.each r (List.mem_of_mem_drop hr)⟩
  obtain ⟨b, off, rfl, hf⟩ := h.lies (by omega)
  have e : (if cap = n then some (⟨b, off, none⟩ : Addr) else (some (⟨b, off, none⟩ : Addr)).map (·.add (n * 3))) = some ⟨b, off + n * 3, none⟩ := by
    rw [if_neg (by omega)]
    simp [Addr.add_lit]
  refine ⟨b, off + n * 3, e, three fun i hi => ?_⟩
  rw [List.length_drop] at hi
  have h1 := hf.o (n + i) (by omega)
  have h2 := hf.n (n + i) (by omega)
  have h3 := hf.u (n + i) (by omega)
  have e1 : (rs.drop n).getD i rn0 = rs.getD (n + i) rn0 := by simp [List.getD_eq_getElem?_getD, List.getElem?_drop]
  rw [e1, show off + n * 3 + i * 3 = off + (n + i) * 3 by omega]
  exact ⟨h1, h2, h3⟩
theorem back_none {a : Option Addr} {cap n : Nat} (h : a = none → cap = 0) : (if cap = n then a else a.map (·.add (n * 3))) = none → cap - n = 0 := fun e => by
  split at e
  · rw [h e]; simp
  · cases a with
    | none => rw [h rfl]; simp
    | some x => cases e
theorem infoRz : (Tryd.prog.info? 35).map (fun i => (i.zero, i.size, i.bytes)) = some (some (.agg #[.int .i64 0, .int .i64 0, .slice none 0 0]), 3, 40) := by kernel_rfl
/-- A row of rounds that the call made: it lies in block g, whole. -/
def Rz (w : World) (g : Nat) (rs : List Rn) : Prop := w.heap[g]? = some (.cells (flR rs).toArray 35 (0, 0))
section
variable {w w' : World} {g : Nat} {rs : List Rn}
theorem Rz.lt (h : Rz w g rs) : g < w.heap.size := (Array.getElem?_eq_some_iff.1 h).1
theorem Rz.kept {row : Option Nat} (h : Rz w g rs) (hg : w.grownBy w' row) (hne : some g ≠ row) : Rz w' g rs := (hg.block g h.lt hne).trans h
theorem Rz.next (h : Rz w g rs) (hb : Below w.heap.size w w') : Rz w' g rs := (hb.block g h.lt).trans h
theorem Rz.alloc (h : Rz w g rs) (x : Obj) : Rz (w.alloc x) g rs := (Below.heap_alloc _ _ _ h.lt).trans h
theorem Rz.f0 (h : Rz w g rs) (i : Nat) : w.frozen? ⟨g, i, none⟩ = false := by unfold Rz at h; simp [World.frozen?, h]
theorem Rz.row (h : Rz w g rs) (k : Nat) (hk : k < rs.length) : w.cell? ⟨g, k * 3, none⟩ = some (.int .i64 (rs.getD k rn0).o) ∧ w.cell? ⟨g, k * 3 + 1, none⟩ = some (.int .i64 (rs.getD k rn0).n) ∧ w.cell? ⟨g, k * 3 + 2, none⟩ = some (.slice (rs.getD k rn0).a (rs.getD k rn0).len (rs.getD k rn0).cap) := by
  have hc : ∀ r, r < 3 → w.cell? ⟨g, k * 3 + r, none⟩ = (cellsR3 (rs.getD k rn0))[r]? := fun r hr => by
    have h1 := flR_get rs k r hk hr
    obtain ⟨v, hv⟩ : ∃ v, (cellsR3 (rs.getD k rn0))[r]? = some v := ⟨_, List.getElem?_eq_getElem (show r < (cellsR3 (rs.getD k rn0)).length from hr)⟩
    rw [hv] at h1 ⊢
    exact cell_at h (k * 3 + r) v (by simpa using h1)
  exact ⟨hc 0 (by omega), hc 1 (by omega), hc 2 (by omega)⟩
theorem Rz.at (h : Rz w g rs) : RsAt w (some ⟨g, 0, none⟩) rs.length rs :=
  ⟨rfl, fun _ => ⟨g, 0, rfl, three fun i hi => by rw [Nat.zero_add]; exact h.row i hi⟩⟩
theorem flR_set (rs : List Rn) (k : Nat) (hk : k < rs.length) (u : Rn) : ((((flR rs).toArray.set! (k * 3) (.int .i64 u.o)).set! (k * 3 + 1) (.int .i64 u.n)).set! (k * 3 + 2) (.slice u.a u.len u.cap)) = (flR (rs.set k u)).toArray := by
  apply Array.ext'
  simp only [Array.set!_eq_setIfInBounds, Array.toList_setIfInBounds]
  apply List.ext_getElem?
  intro j
  have hl := flR_len rs
  have hl' := flR_len (rs.set k u)
  rw [List.length_set] at hl'
  by_cases hj : j < rs.length * 3
  · rw [flR_at _ j (by rw [List.length_set]; exact hj)]
    have hu := flR_at rs j hj
    by_cases hjk : j / 3 = k
    · rw [hjk, List.getD_eq_getElem?_getD, List.getElem?_set_self hk]
      simp only [Option.getD_some]
      rcases (show j % 3 = 0 ∨ j % 3 = 1 ∨ j % 3 = 2 by omega) with h0 | h0 | h0
      · obtain rfl : j = k * 3 := by omega
        rw [h0, List.getElem?_set_ne (by omega), List.getElem?_set_ne (by omega), List.getElem?_set_self (by simpa using by omega)]
        rfl
      · obtain rfl : j = k * 3 + 1 := by omega
        rw [h0, List.getElem?_set_ne (by omega), List.getElem?_set_self (by simp; omega)]
        rfl
      · obtain rfl : j = k * 3 + 2 := by omega
        rw [h0, List.getElem?_set_self (by simp; omega)]
        rfl
    · rw [List.getElem?_set_ne (by omega), List.getElem?_set_ne (by omega), List.getElem?_set_ne (by omega)]
      rw [hu, List.getD_eq_getElem?_getD, List.getD_eq_getElem?_getD, List.getElem?_set_ne (fun e => hjk e.symm)]
  · rw [List.getElem?_eq_none (by simp only [List.length_set]; show (flR rs).length ≤ j; omega), List.getElem?_eq_none (by omega)]
theorem Rz.set3 (h : Rz w g rs) (k : Nat) (hk : k < rs.length) (u : Rn) : Rz (((w.setCell ⟨g, k * 3, none⟩ (.int .i64 u.o)).setCell ⟨g, k * 3 + 1, none⟩ (.int .i64 u.n)).setCell ⟨g, k * 3 + 2, none⟩ (.slice u.a u.len u.cap)) g (rs.set k u) := by
  unfold Rz at *
  rw [← flR_set rs k hk u]
  simp [World.setCell, Array.getElem?_modify, h]
/-- What 'make' makes. -/
theorem Rz.made {base n : Nat} (h : w'.ownsRow base 35 3 (.slice (some ⟨g, 0, none⟩) n n) n (madeCells (Value.agg #[.int .i64 0, .int .i64 0, .slice none 0 0]).cells (n * 3)).toList) : Rz w' g (List.replicate n rn0) := by
  rcases h.2 with ⟨e, _⟩ | ⟨g', cap, cur, e, _, hh, _, _, hs, ht⟩
  · cases e
  · simp only [Value.slice.injEq, Option.some.injEq, Addr.mk.injEq, and_true] at e
    obtain ⟨rfl, _, rfl⟩ := e
    unfold Rz
    rw [hh]
    have e1 : cur.toList.take (n * 3) = cur.toList := List.take_of_length_le (by rw [Array.length_toList]; omega)
    rw [e1] at ht
    have e2 : cur = (flR (List.replicate n rn0)).toArray := by
      apply Array.ext'
      rw [ht]
      show _ = flR (List.replicate n rn0)
      apply List.ext_getElem?
      intro j
      by_cases hj : j < n * 3
      · rw [flR_at _ j (by rw [List.length_replicate]; exact hj), List.getD_eq_getElem?_getD, List.getElem?_replicate, if_pos (by omega)]
        simp only [Option.getD_some, madeCells, Array.toList_map, List.getElem?_map, Array.toList_range, List.getElem?_range hj, Option.map_some]
        rcases (show j % 3 = 0 ∨ j % 3 = 1 ∨ j % 3 = 2 by omega) with h0 | h0 | h0 <;> (rw [show (Value.agg #[.int .i64 0, .int .i64 0, .slice none 0 0]).cells.size = 3 from rfl, h0]; rfl)
      · rw [List.getElem?_eq_none (by simp [madeCells]; omega), List.getElem?_eq_none (by rw [flR_len, List.length_replicate]; omega)]
    rw [e2]
end
theorem setR_step (xs : List Rn) (n k : Nat) (u : Rn) (hx : xs.length = k) (hk : k < n) : (xs ++ List.replicate (n - k) rn0).set k u = (xs ++ [u]) ++ List.replicate (n - (k + 1)) rn0 := by
  subst hx
  rw [List.set_append_right _ _ (Nat.le_refl _), Nat.sub_self]
  obtain ⟨m, hm⟩ : ∃ m, n - xs.length = m + 1 := ⟨n - xs.length - 1, by omega⟩
  rw [hm, List.replicate_succ, show n - (xs.length + 1) = m by omega, List.set_cons_zero, List.append_assoc]
  rfl
/-- What a round's copy is: its updates lie in a block of its own, from B on. -/
def Own (B : Nat) (w : World) (r : Rn) : Prop := ∃ g, r.a = some ⟨g, 0, none⟩ ∧ Rw w g r.us ∧ B ≤ g ∧ r.len = r.us.length ∧ r.cap = r.us.length
theorem Own.ru {B : Nat} {w : World} {r : Rn} (h : Own B w r) : Ru w r := by
  obtain ⟨g, e, hr, _, e1, e2⟩ := h
  refine ⟨?_, by omega, fun e' => ?_⟩
  · rw [e, e1]; exact hr.is
  · rw [e] at e'; cases e'
/-- Within From: k rounds are copied. -/
structure Fm (w wr : World) (g n : Nat) (us : List Rn) (k : Nat) (xs : List Rn) : Prop where
  len : xs.length = k
  rw : Rz wr g (xs ++ List.replicate (n - k) rn0)
  lo : w.heap.size ≤ g
  own : ∀ r ∈ xs, Own w.heap.size wr r
  at' : ∀ i, i < k → (xs.getD i rn0).o = (us.getD i rn0).o ∧ (xs.getD i rn0).n = (us.getD i rn0).n ∧ (xs.getD i rn0).us = (us.getD i rn0).us
  bel : Below w.heap.size w wr
theorem Fm.step {w wr w1 : World} {g n k : Nat} {us xs : List Rn} (h : Fm w wr g n us k xs) (hk : k < n) (hb : Below wr.heap.size wr w1) (x : Rn) (hx : Own wr.heap.size w1 x) (e : x.o = (us.getD k rn0).o ∧ x.n = (us.getD k rn0).n ∧ x.us = (us.getD k rn0).us) :
    Fm w (((w1.setCell ⟨g, k * 3, none⟩ (.int .i64 x.o)).setCell ⟨g, k * 3 + 1, none⟩ (.int .i64 x.n)).setCell ⟨g, k * 3 + 2, none⟩ (.slice x.a x.len x.cap)) g n us (k + 1) (xs ++ [x]) := by
  have hl := h.len
  have hgl := h.rw.lt
  have h1 := h.rw.next hb
  have hne : ∀ {r : Rn} {B : Nat} {W : World}, Own B W r → W = w1 → ∀ g', r.a = some ⟨g', 0, none⟩ → g' ≠ g := fun ho e g' e' => by
    subst e
    obtain ⟨g'', e2, hr, _⟩ := ho
    rw [e2] at e'
    cases e'
    exact two_types hr h1 (by decide)
  have keep : ∀ {r : Rn} {B B' : Nat}, Own B w1 r → B' ≤ B → Own B' (((w1.setCell ⟨g, k * 3, none⟩ (.int .i64 x.o)).setCell ⟨g, k * 3 + 1, none⟩ (.int .i64 x.n)).setCell ⟨g, k * 3 + 2, none⟩ (.slice x.a x.len x.cap)) r := fun ho hB => by
    have hq := hne ho rfl
    obtain ⟨g', e1, hr, hg', e2, e3⟩ := ho
    have hq := hq g' e1
    exact ⟨g', e1, ((hr.setnew hq _ _).setnew hq _ _).setnew hq _ _, by omega, e2, e3⟩
  refine ⟨by simp [hl], ?_, h.lo, fun r hr => ?_, fun i hi => ?_, ?_⟩
  · have := h1.set3 k (by rw [List.length_append, List.length_replicate]; omega) x
    rw [setR_step xs n k x hl hk] at this
    exact this
  · rcases List.mem_append.1 hr with hr | hr
    · obtain ⟨g', e1, hr, hg', e2, e3⟩ := h.own r hr
      exact keep ⟨g', e1, hr.next hb, hg', e2, e3⟩ (Nat.le_refl _)
    · rw [List.mem_singleton.1 hr]
      exact keep hx h.bel.size
  · by_cases hik : i < k
    · have := h.at' i hik
      simp only [List.getD_eq_getElem?_getD] at this ⊢
      rw [List.getElem?_append_left (by omega)]
      exact this
    · obtain rfl : i = k := by omega
      simp only [List.getD_eq_getElem?_getD] at e ⊢
      rw [List.getElem?_append_right (by omega), hl, Nat.sub_self]
      exact e
  · have := h.lo
    have hb2 := Below.next h.bel hb
    exact ((hb2.setCell (show w.heap.size ≤ g from this) _).setCell (show w.heap.size ≤ g from this) _).setCell (show w.heap.size ≤ g from this) _
/-- How many rounds From leaves away. -/
def fromK (n : Int) (L : Nat) : Nat := if n < 0 then 0 else if (L : Int) ≤ n then L else n.toNat
theorem fromK_le (n : Int) (L : Nat) : fromK n L ≤ L := by
  unfold fromK
  split
  · omega
  · split <;> omega
theorem fromK_min (n : Int) (L : Nat) : min (max n 0) (L : Int) = (fromK n L : Int) := by
  unfold fromK
  split
  · omega
  · split <;> omega
theorem from_slice {w : World} {a : Option Addr} {L c K : Nat} {rs : List Rn} (h : IsRs w a L rs) (hc : L ≤ c) (hn : a = none → c = 0) (hK : K ≤ L) :
    ∃ A C M, M = L - K ∧ (∀ w, (Instr.sliceAt 40 (.slice a L c) (some (.int .i64 (K : Int))) none none).run Tryd.prog w = .ok (.slice A M C) w) ∧ IsRs w A M (rs.drop K) ∧ M ≤ C ∧ (A = none → C = 0) :=
  ⟨_, _, _, rfl, fun w => slR_back a L c K hK w, h.back hc hK, by omega, back_none hn⟩
section
variable {B b : Nat} {F : Nat → Prop} {o last : Int} {uss : List (List Up)}
set_option maxHeartbeats 8000000 in
theorem jfrom_any (n : Int) (hn : uss.length ≤ 1000) (w : World) (h : Jx 94 B w b F o last uss) :
    Calls Tryd.prog 40 #[.pointer (some ⟨b, 0, none⟩), .int .i64 n] w fun e w' => ∃ g xs, e = .returned (.slice (some ⟨g, 0, none⟩) (uss.length - fromK n uss.length) (uss.length - fromK n uss.length)) ∧ Rz w' g xs ∧ w.heap.size ≤ g ∧ (∀ r ∈ xs, Own w.heap.size w' r) ∧ Of o (fromK n uss.length) (uss.drop (fromK n uss.length)) xs ∧ Below w.heap.size w w' := by
  obtain ⟨v, S, rs, hj, ho, hs, rfl⟩ := h
  have hsm : ∀ i, i < uss.length → Sm (uss.getD i []) := fun i hi => hs _ (by
    rw [List.getD_eq_getElem?_getD, List.getElem?_eq_getElem hi]
    exact List.getElem_mem hi)
  obtain ⟨ax, c, rfl, hx, hc, hna⟩ := hj.is
  obtain ⟨L, hL⟩ : ∃ L : Nat, rs.length = L := ⟨_, rfl⟩
  have hrl := ho.len
  rw [hL] at hj hx hc hrl
  rw [← hrl] at hn hsm ⊢
  have hKL := fromK_le n L
  have hmm := fromK_min n L
  generalize fromK n L = K at *
  obtain ⟨A, C, M, hM, hsl, hI, hMC, hAn⟩ := from_slice hx hc hna hKL
  rw [← hM]
  have hod : Of o K (uss.drop K) (rs.drop K) := by have := ho.drop K; rw [Nat.zero_add] at this; exact this
  have hsz := hI.size
  have HX : Hid (∀ i, i < M → Sm ((rs.drop K).getD i rn0).us) := Lib.hid fun i hi => by
    have e := (hod.at' i (by rw [List.length_drop]; omega)).2.2
    rw [e]
    have := hsm (K + i) (by omega)
    simp only [List.getD_eq_getElem?_getD, List.getElem?_drop] at this ⊢
    exact this
  have HOD := Lib.hid hod
  have c2 := hj.c2
  have HI := Lib.hid hI
  have hM1 : M ≤ 1000 := by omega
  have HM := Lib.hid hM
  have HRL := Lib.hid hrl
  clear hj ho hs hsm hx hc hna hrl hI hod hMC hAn hL hM
  generalize rs.drop K = us at *
  obtain ⟨i0, hi, hz0, hz1, hz2⟩ := info_parts infoRz
  go_enter Tryd.func40, Tryd.ntmps40
  go_wp2_with fail
  refine wp_region_held_drew (S := fun w' => w'.cell? ⟨b, 2, none⟩ = some (.slice ax L c)) (by kernel_rfl) ?_ (fun hH => ?_)
  · exact c2
  refine tkH 0 ?_ ?_ ?_
  rotate_left
  · intro w hSw
    try dsimp only at hSw
    go_simp
    all_goals with_reducible rfl
  try simp only [pt]
  refine tkH 1 ?_ ?_ ?_
  rotate_left
  · intro w hSw
    try dsimp only at hSw
    go_simp
    all_goals with_reducible rfl
  try simp only [pt]
  refine tkH 2 ?_ ?_ ?_
  rotate_left
  · intro w hSw
    try dsimp only at hSw
    go_simp
    all_goals with_reducible rfl
  try simp only [pt]
  refine tkH 3 ?_ ?_ ?_
  rotate_left
  · intro w hSw
    try dsimp only at hSw
    go_simp
    all_goals with_reducible rfl
  try simp only [pt]
  refine tkH 4 ?_ ?_ ?_
  rotate_left
  · intro w hSw
    try dsimp only at hSw
    go_simp
    all_goals with_reducible rfl
  try simp only [pt]
  refine tkH 5 ?_ ?_ ?_
  rotate_left
  · intro w hSw
    try dsimp only at hSw
    go_simp
    all_goals with_reducible rfl
  try simp only [pt]
  refine tkH 6 ?_ ?_ ?_
  rotate_left
  · intro w hSw
    try dsimp only at hSw
    go_simp
    all_goals with_reducible rfl
  try simp only [pt]
  refine tkH 7 ?_ ?_ ?_
  rotate_left
  · intro w hSw
    try dsimp only at hSw
    go_simp
    all_goals with_reducible rfl
  try simp only [pt]
  refine tkH 8 ?_ ?_ ?_
  rotate_left
  · intro w hSw
    try dsimp only at hSw
    go_simp
    all_goals with_reducible rfl
  try simp only [pt]
  refine tkH 9 ?_ ?_ ?_
  rotate_left
  · intro w hSw
    try dsimp only at hSw
    go_simp
    all_goals with_reducible rfl
  try simp only [pt]
  refine tkH 10 ?_ ?_ ?_
  rotate_left
  · intro w hSw
    try dsimp only at hSw
    go_simp
    all_goals with_reducible rfl
  try simp only [pt]
  refine tkH 11 ?_ ?_ ?_
  rotate_left
  · intro w hSw
    try dsimp only at hSw
    go_simp
    all_goals with_reducible rfl
  try simp only [pt]
  refine tkH 12 ?_ ?_ ?_
  rotate_left
  · intro w hSw
    try dsimp only at hSw
    go_simp
    all_goals with_reducible rfl
  try simp only [pt]
  refine tkH 13 ?_ ?_ ?_
  rotate_left
  · intro w hSw
    try dsimp only at hSw
    go_simp
    all_goals with_reducible rfl
  try simp only [pt]
  refine wpAnyH_done (by kernel_rfl) ?_ _
  clear hsl hmm c2
  go_wp2_with (at_make; refine wpList_make_full _ rfl _ _ 40 rfl w.heap.size 35 i0 _ 3 Tryd.underlying40 hi hz0 hz1 .i64 .i64 (M : Int) (M : Int) M rfl rfl rfl rfl (by rw [hz2]; omega) (by unfold maxLen; omega) (by simp) ?_)
  intro w1 hown hgr
  have HP : Hid (Fm w w1 w.heap.size M us 0 []) := Lib.hid ⟨rfl, by rw [Nat.sub_zero]; exact Rz.made hown, Nat.le_refl _, fun r hr => (by cases hr), fun i hi => absurd hi (Nat.not_lt_zero _), ⟨hgr.os, hgr.tape, hgr.output, hgr.size, fun k hk => hgr.block k hk (by simp)⟩⟩
  clear hown hgr hi hz0 hz1 hz2
  go_wp2_with fail
  go_loopw [27] (fun v27 wr => ∃ k : Nat, k ≤ M ∧ v27 = .int .i64 k ∧ ∃ xs, Fm w wr w.heap.size M us k xs) (fun v27 _ => M - (intOf v27).toNat)
  case atStart => exact ⟨0, Nat.zero_le _, rfl, [], HP.out⟩
  case round =>
    obtain ⟨k, hk, rfl, xs, hp⟩ := hrel
    clear HP
    by_cases hlt : k < M
    · obtain ⟨gb, off, rfl, d0, d1, d2, hru⟩ := rcells_of HI.out hp.bel hlt
      have hsm := HX.out k hlt
      have HP := Lib.hid hp
      generalize hr : us.getD k rn0 = r at *
      obtain ⟨ro, rn, ra, rl, rc, rus⟩ := r
      have HR := Lib.hid hr
      have hrl := hru.1.size
      simp only at d0 d1 d2 hsm hrl
      have HC := fun w hu => Lib.hid (rndcopy_any ro rn ra rl rc rus (by have := hsm.1; omega) (fun j hj => hsm.2 j (by omega)) w hu)
      have HU := Lib.hid (isUs_below hru.1 (Below.step hp.bel (.cells #[.int .i64 ro, .int .i64 rn, .slice ra rl rc] 35) (Below.refl _ _)))
      have HRL := Lib.hid hrl
      clear hp hru hsm hr hrl
      go_wp2_with fail
      refine (HC _ HU.out).out.mono ?_
      rintro e w3 ⟨rfl, hrw, hb⟩
      have hsz1 : (wr.alloc (.cells #[.int .i64 ro, .int .i64 rn, .slice ra rl rc] 35)).heap.size = wr.heap.size + 1 := by simp
      rw [hsz1] at hrw
      have hb2 : Below wr.heap.size wr w3 := Below.step (Below.refl _ _) _ hb
      have h3 := HP.out.rw.next hb2
      have hkl : k < (xs ++ List.replicate (M - k) rn0).length := by rw [List.length_append, List.length_replicate, HP.out.len]; omega
      obtain ⟨x0, x1, x2⟩ := h3.row k hkl
      have f0 := h3.f0 (k * 3)
      have f1 := h3.f0 (k * 3 + 1)
      have f2 := h3.f0 (k * 3 + 2)
      have HN := Lib.hid (HP.out.step hlt hb2 ⟨ro, rn, some ⟨wr.heap.size + 1 + 2, 0, none⟩, rl, rl, rus⟩ ⟨_, rfl, hrw, by omega, HRL.out.symm, HRL.out.symm⟩ (by rw [HR.out]; exact ⟨rfl, rfl, rfl⟩))
      clear hrw hb hb2 h3 hkl HC HU d0 d1 d2 HP
      go_wp2
      go_roundw
      case rel => exact ⟨k + 1, by omega, by go_num, _, HN.out⟩
      case measure => simp [intOf]; omega
    · obtain rfl : k = M := by omega
      have hr := hp.rw
      rw [Nat.sub_self, List.replicate_zero, List.append_nil] at hr
      have HRZ := Lib.hid hr
      have HP := Lib.hid hp
      clear hp hr
      go_wp2
      go_ret
      refine ⟨_, xs, rfl, HRZ.out, HP.out.lo, HP.out.own, ?_, HP.out.bel⟩
      refine ⟨by rw [HP.out.len, HOD.out.len.symm, hsz], fun i hi => ?_⟩
      have e1 := HOD.out.at' i hi
      obtain ⟨e2, e3, e4⟩ := HP.out.at' i (by have := HOD.out.len; omega)
      rw [e2, e3, e4]
      exact e1
end
end Go.Proofs.YtbbgibekplfacaaDoor
