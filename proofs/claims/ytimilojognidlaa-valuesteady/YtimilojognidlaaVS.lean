/- The walk of ValueSteady. -/
import Derived.Test.YtimilojognidlaaVS0
namespace Go.Proofs.Ytimilojognidlaa
open Go Go.RowKit
theorem wrap_is (x : Int) : IntKind.i64.wrap x = wrap64 x := by rw [IntKind.wrap_i64]; unfold wrap64; omega
/-- What lies where, ahead of the last statement and in it. -/
structure Fz (w w' : World) (d0 d1 d2 d3 c : Nat) (n a b : Int) (s0 s1 s2 cs : ByteArray) : Prop where
  v : Vb w' d0 (1, n, ⟨#[]⟩)
  x : Ub w' d1 (⟨#[]⟩, 3, a, ⟨#[]⟩)
  y : Ub w' d2 (⟨#[]⟩, 3, b, ⟨#[]⟩)
  t : Vb w' d3 (2, 0, s0)
  c : Vb w' c (2, 0, cs)
  s : Sb w' (w.heap.size + 1) s0 s1 s2
  bel : Below w.heap.size w w'
theorem Fz.step {w X W : World} {d0 d1 d2 d3 c : Nat} {n a b : Int} {s0 s1 s2 cs : ByteArray} (h : Fz w X d0 d1 d2 d3 c n a b s0 s1 s2 cs) (hW : Below X.heap.size X W) : Fz w W d0 d1 d2 d3 c n a b s0 s1 s2 cs :=
  ⟨h.v.kept hW rfl, h.x.kept hW rfl, h.y.kept hW rfl, h.t.kept hW rfl, h.c.kept hW rfl, kept_of hW h.s, Below.next h.bel hW⟩
theorem Fz.cells {w W : World} {d0 d1 d2 d3 c : Nat} {n a b : Int} {s0 s1 s2 cs : ByteArray} (h : Fz w W d0 d1 d2 d3 c n a b s0 s1 s2 cs) :
    W.cell? ⟨d0, 0, none⟩ = some (.int .i64 1) ∧ W.cell? ⟨d0, 1, none⟩ = some (.int .i64 n) ∧ W.cell? ⟨d0, 2, none⟩ = some (.string ⟨#[]⟩) ∧
    W.cell? ⟨d1, 0, none⟩ = some (.string ⟨#[]⟩) ∧ W.cell? ⟨d1, 1, none⟩ = some (.int .i64 3) ∧ W.cell? ⟨d1, 2, none⟩ = some (.int .i64 a) ∧ W.cell? ⟨d1, 3, none⟩ = some (.string ⟨#[]⟩) ∧
    W.cell? ⟨d2, 0, none⟩ = some (.string ⟨#[]⟩) ∧ W.cell? ⟨d2, 1, none⟩ = some (.int .i64 3) ∧ W.cell? ⟨d2, 2, none⟩ = some (.int .i64 b) ∧ W.cell? ⟨d2, 3, none⟩ = some (.string ⟨#[]⟩) ∧
    W.cell? ⟨d3, 0, none⟩ = some (.int .i64 2) ∧ W.cell? ⟨d3, 1, none⟩ = some (.int .i64 0) ∧ W.cell? ⟨d3, 2, none⟩ = some (.string s0) ∧
    W.cell? ⟨c, 0, none⟩ = some (.int .i64 2) ∧ W.cell? ⟨c, 1, none⟩ = some (.int .i64 0) ∧ W.cell? ⟨c, 2, none⟩ = some (.string cs) ∧
    W.cell? ⟨w.heap.size + 1, 1, none⟩ = some (.string s1) ∧ W.cell? ⟨w.heap.size + 1, 2, none⟩ = some (.string s2) :=
  ⟨h.v.c.1, h.v.c.2.1, h.v.c.2.2, h.x.c.1, h.x.c.2.1, h.x.c.2.2.1, h.x.c.2.2.2, h.y.c.1, h.y.c.2.1, h.y.c.2.2.1, h.y.c.2.2.2, h.t.c.1, h.t.c.2.1, h.t.c.2.2, h.c.c.1, h.c.c.2.1, h.c.c.2.2, h.s.c.2.1, h.s.c.2.2⟩
theorem Fz.two {w X W wn : World} {d0 d1 d2 d3 c : Nat} {n a b : Int} {s0 s1 s2 cs : ByteArray} (h : Fz w X d0 d1 d2 d3 c n a b s0 s1 s2 cs) (hb : Below W.heap.size W wn) (hW : Below X.heap.size X W) : Fz w wn d0 d1 d2 d3 c n a b s0 s1 s2 cs :=
  (h.step hW).step hb
set_option maxHeartbeats 8000000 in
theorem steady_main (n a b : Int) (s0 s1 s2 : ByteArray) (h0 : s0.size ≤ 300) (h1 : s1.size ≤ 300) (h2 : s2.size ≤ 300) (w : World) :
    Calls Try.prog 7 #[.agg #[.int .i64 n, .int .i64 a, .int .i64 b], .agg #[.string s0, .string s1, .string s2]] w fun e w' => e = .returned (.bool true) ∧ Below w.heap.size w w' := by
  have HXY := fun ad c w h => Lib.hid (callXY n a b ad c w h)
  have HT := fun ad c w h => Lib.hid (callT s0 s1 s2 h0 h1 h2 ad c w h)
  have HAB := fun w => Lib.hid (applyAB n a b w)
  rw [← wrap_is (a + b)] at HAB
  have HAT := fun w => Lib.hid (applyT s0 s1 s2 h0 h1 h2 w)
  have HAN := fun w => Lib.hid (applyN n s1 h1 w)
  have HAX := fun w => Lib.hid (applyX s0 a h0 w)
  generalize wrap64 (wrap64 (n + a) + b) = q at HXY HAB
  generalize s0 ++ (s1 ++ s2) = cs at HT HAT
  have hcat : ¬ 9223372036854775807 < s1.size + s2.size := by omega
  have q0 : decide ((300 : Int) < (s0.size : Int)) = false := decide_eq_false (by omega)
  have q1 : decide ((300 : Int) < (s1.size : Int)) = false := decide_eq_false (by omega)
  have q2 : decide ((300 : Int) < (s2.size : Int)) = false := decide_eq_false (by omega)
  go_enter Try.func7, Try.ntmps7
  go_wp2_with fail
  go_quiet (fail)
  go_wp2_with fail
  refine (awake_yes _).mono ?_
  rintro e w1 ⟨rfl, hb⟩
  have hk := texts_kept hb
  obtain ⟨c0, c1, c2⟩ := Sb.c hk.1
  have hlt : w.heap.size + 1 < w1.heap.size := block_lt_of_cell c0
  have hlt0 : w.heap.size < w1.heap.size := by omega
  have k1 : ∀ o1 o2 o3 o4, ((((w1.alloc o1).alloc o2).alloc o3).alloc o4).cell? ⟨w.heap.size + 1, 1, none⟩ = some (.string s1) := fun o1 o2 o3 o4 => ((below_a4 w1 o1 o2 o3 o4).cell hlt).trans c1
  have k2 : ∀ o1 o2 o3 o4, ((((w1.alloc o1).alloc o2).alloc o3).alloc o4).cell? ⟨w.heap.size + 1, 2, none⟩ = some (.string s2) := fun o1 o2 o3 o4 => ((below_a4 w1 o1 o2 o3 o4).cell hlt).trans c2
  have HK := Lib.hid hk
  clear hb hk
  go_wp2_with fail
  refine (HT _ 2 _ (isUs_two (t := 25) (new_at (by simp)))).out.mono ?_
  rintro e w2 ⟨rfl, hb⟩
  have b0 : Vb w2 (w1.heap.size) (1, n, ⟨#[]⟩) := kept_of hb (old_at (old_at (old_at (old_at (heap_alloc_new w1 _)))))
  have b1 : Ub w2 (w1.heap.size + 1) (⟨#[]⟩, 3, a, ⟨#[]⟩) := kept_of hb (old_at (old_at (old_at (new_at (by simp)))))
  have b2 : Ub w2 (w1.heap.size + 1 + 1) (⟨#[]⟩, 3, b, ⟨#[]⟩) := kept_of hb (old_at (old_at (new_at (by simp))))
  have b3 : Vb w2 (w1.heap.size + 1 + 1 + 1) (2, 0, s0) := kept_of hb (old_at (new_at (by simp)))
  have hW := ((below_a4 w1 _ _ _ _).alloc (by simp; omega) _).trans (hb.mono (by simp; omega))
  have b4 : Sb w2 (w.heap.size + 1) s0 s1 s2 := kept_of hW HK.out.1
  have HB2 := Lib.hid (Below.next HK.out.2 hW)
  have hF : Fz w (w2.alloc (.cells #[.int .i64 2, .int .i64 0, .string cs] 23)) (w1.heap.size) (w1.heap.size + 1) (w1.heap.size + 1 + 1) (w1.heap.size + 1 + 1 + 1) w2.heap.size n a b s0 s1 s2 cs :=
    ⟨b0.alloc _, kept_of (Joins.below_alloc1 w2 _) b1, kept_of (Joins.below_alloc1 w2 _) b2, b3.alloc _, heap_alloc_new _ _, kept_of (Joins.below_alloc1 w2 _) b4, HB2.out.alloc HB2.out.size _⟩
  clear hb hW b0 b1 b2 b3 b4 HK HB2 HT c0 c1 c2 k1 k2
  go_wp2_with fail
  generalize w2.alloc (.cells #[.int .i64 2, .int .i64 0, .string cs] 23) = wz at hF ⊢
  have HF := Lib.hid hF
  clear hF
  go_region_held3 (fun w' => w'.cell? ⟨w1.heap.size, 0, none⟩ = some (.int .i64 1) ∧ w'.cell? ⟨w1.heap.size, 1, none⟩ = some (.int .i64 n) ∧ w'.cell? ⟨w1.heap.size, 2, none⟩ = some (.string ⟨#[]⟩) ∧ w'.cell? ⟨w1.heap.size + 1, 0, none⟩ = some (.string ⟨#[]⟩) ∧ w'.cell? ⟨w1.heap.size + 1, 1, none⟩ = some (.int .i64 3) ∧ w'.cell? ⟨w1.heap.size + 1, 2, none⟩ = some (.int .i64 a) ∧ w'.cell? ⟨w1.heap.size + 1, 3, none⟩ = some (.string ⟨#[]⟩) ∧ w'.cell? ⟨w1.heap.size + 1 + 1, 0, none⟩ = some (.string ⟨#[]⟩) ∧ w'.cell? ⟨w1.heap.size + 1 + 1, 1, none⟩ = some (.int .i64 3) ∧ w'.cell? ⟨w1.heap.size + 1 + 1, 2, none⟩ = some (.int .i64 b) ∧ w'.cell? ⟨w1.heap.size + 1 + 1, 3, none⟩ = some (.string ⟨#[]⟩) ∧ w'.cell? ⟨w1.heap.size + 1 + 1 + 1, 0, none⟩ = some (.int .i64 2) ∧ w'.cell? ⟨w1.heap.size + 1 + 1 + 1, 1, none⟩ = some (.int .i64 0) ∧ w'.cell? ⟨w1.heap.size + 1 + 1 + 1, 2, none⟩ = some (.string s0) ∧ w'.cell? ⟨w2.heap.size, 0, none⟩ = some (.int .i64 2) ∧ w'.cell? ⟨w2.heap.size, 1, none⟩ = some (.int .i64 0) ∧ w'.cell? ⟨w2.heap.size, 2, none⟩ = some (.string cs) ∧ w'.cell? ⟨w.heap.size + 1, 1, none⟩ = some (.string s1) ∧ w'.cell? ⟨w.heap.size + 1, 2, none⟩ = some (.string s2))
    (first
      | with_reducible assumption
      | exact Fz.cells (HF.out.step (by first | with_reducible exact Below.refl _ _ | with_reducible exact (Below.refl _ _).drew | with_reducible exact Joins.below_alloc1 _ _ | with_reducible exact (Joins.below_alloc1 _ _).drew | with_reducible exact Joins.below_alloc2 _ _ _ | with_reducible exact (Joins.below_alloc2 _ _ _).drew)))
    (first
      | (go_at_call 16
         refine (HXY _ _ _ ?_).out.mono ?_
         · first | exact .inl (isUs_two (t := 25) (heap_alloc_new _ _)) | exact .inr (isUs_two (t := 25) (heap_alloc_new _ _)) | exact .inl (isUs_two (t := 25) (old_at (heap_alloc_new _ _))) | exact .inr (isUs_two (t := 25) (old_at (heap_alloc_new _ _))) | exact .inl (isUs_two (t := 25) (new_at (size_one _ _))) | exact .inr (isUs_two (t := 25) (new_at (size_one _ _))) | exact .inl (isUs_two (t := 25) (kept_of HP.out (old_at (heap_alloc_new _ _)))) | exact .inr (isUs_two (t := 25) (kept_of HP.out (old_at (heap_alloc_new _ _)))) | exact .inl (isUs_two (t := 25) (kept_of HP.out (new_at (size_one _ _)))) | exact .inr (isUs_two (t := 25) (kept_of HP.out (new_at (size_one _ _))))
         rintro e wn ⟨rfl, hb⟩
         have hf := Fz.two HF.out hb (by first | with_reducible exact Below.refl _ _ | with_reducible exact (Below.refl _ _).drew | with_reducible exact Joins.below_alloc1 _ _ | with_reducible exact (Joins.below_alloc1 _ _).drew | with_reducible exact Joins.below_alloc2 _ _ _ | with_reducible exact (Joins.below_alloc2 _ _ _).drew)
         have HP := Lib.hid hb
         have HF := Lib.hid hf
         clear hb hf)
      | (go_at_call_of 11 (s1 ++ s2)
         refine (HAT _).out.mono ?_
         rintro e wn ⟨rfl, hb⟩
         have hf := Fz.two HF.out hb (by first | with_reducible exact Below.refl _ _ | with_reducible exact (Below.refl _ _).drew | with_reducible exact Joins.below_alloc1 _ _ | with_reducible exact (Joins.below_alloc1 _ _).drew | with_reducible exact Joins.below_alloc2 _ _ _ | with_reducible exact (Joins.below_alloc2 _ _ _).drew)
         have HP := Lib.hid hb
         have HF := Lib.hid hf
         clear hb hf)
      | (go_at_call_of 11 s1
         refine (HAN _).out.mono ?_
         rintro e wn ⟨rfl, hb⟩
         have hf := Fz.two HF.out hb (by first | with_reducible exact Below.refl _ _ | with_reducible exact (Below.refl _ _).drew | with_reducible exact Joins.below_alloc1 _ _ | with_reducible exact (Joins.below_alloc1 _ _).drew | with_reducible exact Joins.below_alloc2 _ _ _ | with_reducible exact (Joins.below_alloc2 _ _ _).drew)
         have HP := Lib.hid hb
         have HF := Lib.hid hf
         clear hb hf)
      | (go_at_call_of 11 s0
         refine (HAX _).out.mono ?_
         rintro e wn ⟨rfl, hb⟩
         have hf := Fz.two HF.out hb (by first | with_reducible exact Below.refl _ _ | with_reducible exact (Below.refl _ _).drew | with_reducible exact Joins.below_alloc1 _ _ | with_reducible exact (Joins.below_alloc1 _ _).drew | with_reducible exact Joins.below_alloc2 _ _ _ | with_reducible exact (Joins.below_alloc2 _ _ _).drew)
         have HP := Lib.hid hb
         have HF := Lib.hid hf
         clear hb hf)
      | (go_at_call_of 11 n
         refine (HAB _).out.mono ?_
         rintro e wn ⟨rfl, hb⟩
         have hf := Fz.two HF.out hb (by first | with_reducible exact Below.refl _ _ | with_reducible exact (Below.refl _ _).drew | with_reducible exact Joins.below_alloc1 _ _ | with_reducible exact (Joins.below_alloc1 _ _).drew | with_reducible exact Joins.below_alloc2 _ _ _ | with_reducible exact (Joins.below_alloc2 _ _ _).drew)
         have HP := Lib.hid hb
         have HF := Lib.hid hf
         clear hb hf))
  all_goals (
    go_wp2
    go_ret
    exact ⟨rfl, HF.out.bel⟩)
theorem walkSteady (n a b : Int) (s0 s1 s2 : ByteArray) (w : World) :
    Calls Try.prog 7 #[.agg #[.int .i64 n, .int .i64 a, .int .i64 b], .agg #[.string s0, .string s1, .string s2]] w fun e w' => e = .returned (.bool true) ∧ Below w.heap.size w w' := by
  by_cases h : 300 < s0.size ∨ 300 < s1.size ∨ 300 < s2.size
  · exact steady_out n a b s0 s1 s2 h w
  · exact steady_main n a b s0 s1 s2 (by omega) (by omega) (by omega) w
end Go.Proofs.Ytimilojognidlaa
