/- New, both; Len; At. -/
import Derived.Test.YtbbgibekplfacaaDoorI4
import Derived.Test.YtbbgibekplfacaaDoorI2
import Derived.Deep.QuietTactic
import Derived.BigQuiet
namespace Go.Proofs.YtbbgibekplfacaaDoor
open Go Go.RowKit
set_option maxRecDepth 20000
theorem jx_new (T : TypeId) (B : Nat) (w : World) (o l : Int) (hB : B ≤ w.heap.size) : Jx T B (w.alloc (.cells #[.int .i64 o, .int .i64 l, .slice none 0 0] T)) w.heap.size (Jf w.heap.size (.slice none 0 0) fun _ => False) o l [] :=
  ⟨_, _, [], ⟨hB, heap_alloc_new _ _, rowR_nil _ _, fun r hr => (by cases hr), fun g hg => hg.elim⟩, Of.nil _ _, fun us hu => (by cases hu), rfl⟩
set_option maxHeartbeats 1000000 in
theorem jnew_any (o l : Int) (B : Nat) (w : World) (hB : B ≤ w.heap.size) :
    Calls Tryd.prog 29 #[.int .i64 o, .int .i64 l] w fun e w' => e = .returned (.pointer (some ⟨w.heap.size, 0, none⟩)) ∧ Jx 94 B w' w.heap.size (Jf w.heap.size (.slice none 0 0) fun _ => False) o (lastOf l) [] ∧ Below w.heap.size w w' := by
  have HJ := Lib.hid (jx_new 94 B w o (lastOf l) hB)
  have HB := Lib.hid (Joins.below_alloc1 w (.cells #[.int .i64 o, .int .i64 (lastOf l), .slice none 0 0] 94))
  have HL : Hid (min (max l 1) 1099511627776 = lastOf l) := by
    unfold lastOf
    refine Lib.hid ?_
    split
    · omega
    · split <;> omega
  go_enter Tryd.func29, Tryd.ntmps29
  go_wp2
  rw [HL.out]
  go_ret
  exact ⟨rfl, HJ.out, HB.out⟩
set_option maxHeartbeats 1000000 in
theorem dnew_any (o l : Int) (B : Nat) (w : World) (hB : B ≤ w.heap.size) :
    Calls Tryd.prog 32 #[.int .i64 o, .int .i64 l] w fun e w' => e = .returned (.pointer (some ⟨w.heap.size, 0, none⟩)) ∧ Jx 64 B w' w.heap.size (Jf w.heap.size (.slice none 0 0) fun _ => False) o (lastOf l) [] ∧ Below w.heap.size w w' := by
  have HJ := Lib.hid (jx_new 64 B w o (lastOf l) hB)
  have HB := Lib.hid (Joins.below_alloc1 w (.cells #[.int .i64 o, .int .i64 (lastOf l), .slice none 0 0] 64))
  unfold lastOf at HJ HB ⊢
  by_cases h1 : l < 1
  · simp only [if_pos h1] at HJ HB ⊢
    have q1 : decide (l < 1) = true := decide_eq_true h1
    go_enter Tryd.func32, Tryd.ntmps32
    go_wp2
    go_ret
    exact ⟨rfl, HJ.out, HB.out⟩
  by_cases h2 : 1099511627776 < l
  · simp only [if_neg h1, if_pos h2] at HJ HB ⊢
    have q1 : decide (l < 1) = false := decide_eq_false h1
    have q2 : decide (1099511627776 < l) = true := decide_eq_true h2
    go_enter Tryd.func32, Tryd.ntmps32
    go_wp2
    go_ret
    exact ⟨rfl, HJ.out, HB.out⟩
  simp only [if_neg h1, if_neg h2] at HJ HB ⊢
  have q1 : decide (l < 1) = false := decide_eq_false h1
  have q2 : decide (1099511627776 < l) = false := decide_eq_false h2
  go_enter Tryd.func32, Tryd.ntmps32
  go_wp2
  go_ret
  exact ⟨rfl, HJ.out, HB.out⟩
section
variable {T : TypeId} {B b : Nat} {F : Nat → Prop} {o last : Int} {uss : List (List Up)}
set_option maxHeartbeats 1000000 in
theorem jlen_any (w : World) (h : Jx 94 B w b F o last uss) :
    Calls Tryd.prog 59 #[.pointer (some ⟨b, 0, none⟩)] w fun e w' => e = .returned (.int .i64 (uss.length : Int)) ∧ w' = w := by
  obtain ⟨v, S, rs, hj, ho, hs, rfl⟩ := h
  obtain ⟨a, c, rfl, _⟩ := hj.is
  have c2 := hj.c2
  rw [ho.len] at c2
  clear hj ho hs
  go_enter Tryd.func59, Tryd.ntmps59
  go_wp2
  go_ret
  exact ⟨rfl, rfl⟩
set_option maxHeartbeats 2000000 in
theorem jat_out (i : Int) (hi : i < 0 ∨ (uss.length : Int) ≤ i) (w : World) (h : Jx 94 B w b F o last uss) :
    Calls Tryd.prog 53 #[.pointer (some ⟨b, 0, none⟩), .int .i64 i] w fun e w' => e = .returned (.tuple #[rv rn0, .bool false]) ∧ Below w.heap.size w w' := by
  obtain ⟨v, S, rs, hj, ho, hs, rfl⟩ := h
  obtain ⟨a, c, rfl, _⟩ := hj.is
  rw [ho.len] at hj
  have HB := Lib.hid (Joins.below_alloc1 w (.cells #[.int .i64 0, .int .i64 0, .slice none 0 0] 35))
  have hj2 := hj.next (Joins.below_alloc1 w (.cells #[.int .i64 0, .int .i64 0, .slice none 0 0] 35))
  have c2 := hj2.c2
  have hr := Rb.new w 0 0 none 0 0
  have r0 := hr.f0 0
  have r1 := hr.f0 1
  have r2 := hr.f0 2
  clear hj hj2 ho hs hr
  by_cases h1 : i < 0
  · have q1 : decide (i < 0) = true := decide_eq_true h1
    clear hi h1
    go_enter Tryd.func53, Tryd.ntmps53
    go_wp2
    refine bodyPost_ret (v := .tuple #[.agg #[.int .i64 0, .int .i64 0, .slice none 0 0], .bool false]) (by simp [results, Tryd.results53, go_sem]) rfl ⟨rfl, HB.out⟩
  · have q1 : decide (i < 0) = false := decide_eq_false h1
    have q2 : decide ((uss.length : Int) ≤ i) = true := decide_eq_true (by omega)
    clear hi h1
    go_enter Tryd.func53, Tryd.ntmps53
    go_wp2
    refine bodyPost_ret (v := .tuple #[.agg #[.int .i64 0, .int .i64 0, .slice none 0 0], .bool false]) (by simp [results, Tryd.results53, go_sem]) rfl ⟨rfl, HB.out⟩
/-- A journal's round. -/
theorem Jn.at' {w w1 : World} {a : Option Addr} {c : Nat} {S : Nat → Prop} {rs : List Rn} (hj : Jn T B w b (.slice a rs.length c) S o last rs) {i : Nat} (hi : i < rs.length) (hb : Below w.heap.size w w1) :
    ∃ g off, a = some ⟨g, off, none⟩ ∧ w1.cell? ⟨g, off + i * 3, none⟩ = some (.int .i64 (rs.getD i rn0).o) ∧ w1.cell? ⟨g, off + i * 3 + 1, none⟩ = some (.int .i64 (rs.getD i rn0).n) ∧ w1.cell? ⟨g, off + i * 3 + 2, none⟩ = some (.slice (rs.getD i rn0).a (rs.getD i rn0).len (rs.getD i rn0).cap) ∧ Ru w (rs.getD i rn0) := by
  obtain ⟨a', c', e, hx, _⟩ := hj.is
  cases e
  exact rcells_of hx hb hi
set_option maxHeartbeats 4000000 in
theorem jat_in (i : Nat) (hi : i < uss.length) (w : World) (h : Jx 94 B w b F o last uss) :
    Calls Tryd.prog 53 #[.pointer (some ⟨b, 0, none⟩), .int .i64 (i : Int)] w fun e w' => ∃ r, e = .returned (.tuple #[rv r, .bool true]) ∧ Ru w' r ∧ r.o = o ∧ r.n = ((i + 1 : Nat) : Int) ∧ r.us = uss.getD i [] ∧ Below w.heap.size w w' := by
  obtain ⟨v, S, rs, hj, ho, hs, rfl⟩ := h
  obtain ⟨a, c, rfl, _⟩ := hj.is
  have hl := ho.len
  have hA := Joins.below_alloc1 w (.cells #[.int .i64 0, .int .i64 0, .slice none 0 0] 35)
  have HB := Lib.hid hA
  have c2 := (hj.next hA).c2
  obtain ⟨g, off, rfl, d0, d1, d2, hru⟩ := hj.at' (show i < rs.length by omega) hA
  obtain ⟨e0, e1, e2⟩ := ho.at' i hi
  have hsm : Sm (uss.getD i []) := hs _ (by
    rw [List.getD_eq_getElem?_getD, List.getElem?_eq_getElem hi]
    exact List.getElem_mem hi)
  rw [← e2] at hsm ⊢
  rw [Nat.zero_add] at e1
  rw [← e0, ← e1]
  have hrl := hru.1.size
  have q1 : decide ((i : Int) < 0) = false := decide_eq_false (by omega)
  have q2 : decide ((rs.length : Int) ≤ (i : Int)) = false := decide_eq_false (by omega)
  have hru2 := hru.below hA
  clear e0 e1 e2 hj ho hs
  generalize rs.getD i rn0 = r at *
  obtain ⟨ro, rn, ra, rl, rc, rus⟩ := r
  simp only at hrl d0 d1 d2 hsm
  have HC := fun w hu => Lib.hid (rndcopy_any ro rn ra rl rc rus (by have := hsm.1; omega) (fun j hj => hsm.2 j (by omega)) w hu)
  have HU := Lib.hid hru2.1
  have HR := Lib.hid (Rb.new w 0 0 none 0 0)
  have il : i < rs.length := by omega
  have HSZ : Hid ((w.alloc (.cells #[.int .i64 0, .int .i64 0, .slice none 0 0] 35)).heap.size = w.heap.size + 1) := Lib.hid (by simp)
  clear hru hru2 hsm hA hl hi
  go_enter Tryd.func53, Tryd.ntmps53
  go_wp2_with fail
  refine (HC _ HU.out).out.mono ?_
  rintro e w1 ⟨rfl, hrw, hb⟩
  rw [HSZ.out] at hrw
  have hr1 := HR.out.next hb
  have f0 := hr1.f0 0
  have f1 := hr1.f0 1
  have f2 := hr1.f0 2
  have g0 := hr1.c0
  have g1 := hr1.c1
  have g2 := hr1.c2
  have HB1 := Lib.hid (Below.next HB.out hb)
  have HRW := Lib.hid hrw
  have HR1 := Lib.hid hr1
  clear hb hrw hr1 HR HC c2 d0 d1 d2
  go_wp2
  have h0 := ((HR1.out.set0 ro).set1 rn).set2 (some ⟨w.heap.size + 1 + 2, 0, none⟩) rl rl
  have k0 := h0.c0
  have k1 := h0.c1
  have k2 := h0.c2
  have HRR := Lib.hid ((HRW.out.set3 (show w.heap.size + 1 + 2 ≠ w.heap.size by omega) (.int .i64 ro) (.int .i64 rn) (.slice (some ⟨w.heap.size + 1 + 2, 0, none⟩) rl rl)).is)
  refine bodyPost_ret (v := .tuple #[.agg #[.int .i64 ro, .int .i64 rn, .slice (some ⟨w.heap.size + 1 + 2, 0, none⟩) rl rl], .bool true]) (by simp [results, Tryd.results53, go_sem, k0, k1, k2]) rfl ⟨⟨ro, rn, some ⟨w.heap.size + 1 + 2, 0, none⟩, rl, rl, rus⟩, rfl, ⟨by have := HRR.out; rw [hrl] at this; exact this, Nat.le_refl _, fun e => (by cases e)⟩, rfl, rfl, rfl, below_set3 HB1.out (Nat.le_refl _) _ _ _⟩
end
end Go.Proofs.YtbbgibekplfacaaDoor
