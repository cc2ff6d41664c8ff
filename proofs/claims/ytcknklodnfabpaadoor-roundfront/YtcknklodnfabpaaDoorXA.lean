/- awake. -/
import Derived.Test.YtcknklodnfabpaaDoorXF
namespace Go.Proofs.YtcknklodnfabpaaDoor
open Go Go.RowKit
def us1 : List Up := [(⟨#[107]⟩, 5, 0, ⟨#[]⟩)]
theorem fix1 : mayR 1 2 us1 = 0 := by decide
theorem fix2 : putR 1 2 us1 = ⟨#[1, 2, 1, 5, 1, 107]⟩ := by rfl
theorem fix2' : pxR 1 2 us1 = ⟨#[1, 2, 1, 5, 1, 107]⟩ := by rfl
theorem fix3 : geE ⟨#[1, 2, 1, 5, 1, 107]⟩ = 0 ∧ geO ⟨#[1, 2, 1, 5, 1, 107]⟩ = 1 ∧ geN ⟨#[1, 2, 1, 5, 1, 107]⟩ = 2 ∧ geL ⟨#[1, 2, 1, 5, 1, 107]⟩ = us1 := by
  have h := back_r 1 2 us1 fix1
  rw [fix2'] at h
  exact h
theorem fix4 : geE ⟨#[1, 0, 1, 5, 1, 107]⟩ = 1 := by
  have h : e2 ⟨#[1, 0, 1, 5, 1, 107]⟩ = 1 := by decide
  rw [geE_2 _ (by rw [h]; decide), h]
theorem fix5 : mayR 1 1 [] = 1 := by decide
theorem fix6 : fitsB us1 64 = true := by decide
theorem fix7 : fitsB us1 63 = false := by decide
/-- Within awake: the round, its row. -/
structure AW (w wr : World) : Prop where
  d : Wd wr
  row : Rw wr w.heap.size us1
  rb : Rb wr (w.heap.size + 1) 1 2 (some ⟨w.heap.size, 0, none⟩) 1 1
  bel : Below w.heap.size w wr
theorem AW.next {w wr w' : World} (h : AW w wr) (hb : Below wr.heap.size wr w') : AW w w' := ⟨h.d.below hb, h.row.next hb, h.rb.next hb, Below.next h.bel hb⟩
theorem AW.is {w wr : World} (h : AW w wr) : IsUs wr (some ⟨w.heap.size, 0, none⟩) 1 us1 := h.row.is
theorem AW.start {w : World} (hd : Wd w) : AW w ((w.alloc (.cells #[.string ⟨#[107]⟩, .int .i64 5, .int .i64 0, .string ⟨#[]⟩] 45)).alloc (.cells #[.int .i64 1, .int .i64 2, .slice (some ⟨w.heap.size, 0, none⟩) 1 1] 24)) := by
  have h1 : Rw (w.alloc (.cells #[.string ⟨#[107]⟩, .int .i64 5, .int .i64 0, .string ⟨#[]⟩] 45)) w.heap.size us1 := heap_alloc_new _ _
  have h2 := Rb.new (w.alloc (.cells #[.string ⟨#[107]⟩, .int .i64 5, .int .i64 0, .string ⟨#[]⟩] 45)) 1 2 (some ⟨w.heap.size, 0, none⟩) 1 1
  rw [show (w.alloc (.cells #[.string ⟨#[107]⟩, .int .i64 5, .int .i64 0, .string ⟨#[]⟩] 45)).heap.size = w.heap.size + 1 by simp] at h2
  exact ⟨(hd.alloc _).alloc _, h1.alloc _, h2, Joins.below_alloc2 w _ _⟩
/-- .. and the round that was got. -/
structure AQ (w wr : World) (p : Nat) (a : Option Addr) (cap : Nat) : Prop where
  g : AW w wr
  rb : Rb wr p 1 2 a 1 cap
  us : IsUs wr a 1 us1
theorem AQ.next {w wr w' : World} {p : Nat} {a : Option Addr} {cap : Nat} (h : AQ w wr p a cap) (hb : Below wr.heap.size wr w') : AQ w w' p a cap := ⟨h.g.next hb, h.rb.next hb, isUs_below h.us hb⟩
set_option maxHeartbeats 4000000 in
set_option maxRecDepth 100000 in
theorem awake_yes (w : World) (h : Wd w) : Calls Tryd.prog 10 #[] w fun e w' => e = .returned (.bool true) ∧ Below w.heap.size w w' := by
  have HP1 : Hid (∀ wr, AW w wr → Calls Tryd.prog 12 #[.agg #[.int .i64 1, .int .i64 2, .slice (some ⟨w.heap.size, 0, none⟩) 1 1]] wr fun x w' => x = .returned (.tuple #[.string ⟨#[1, 2, 1, 5, 1, 107]⟩, .int .i64 0]) ∧ Below wr.heap.size wr w') := by
    intro wr h
    have := rndput_any 1 2 (some ⟨w.heap.size, 0, none⟩) 1 1 us1 wr h.d h.is
    rw [fix1, fix2] at this
    exact this
  have HG1 : Hid (∀ wr, Wd wr → Calls Tryd.prog 16 #[.string ⟨#[1, 2, 1, 5, 1, 107]⟩] wr fun x w' => ∃ a cap, x = .returned (.tuple #[.agg #[.int .i64 1, .int .i64 2, .slice a 1 cap], .int .i64 0]) ∧ IsUs w' a 1 us1 ∧ Below wr.heap.size wr w') := by
    intro wr h
    have := rndget_any ⟨#[1, 2, 1, 5, 1, 107]⟩ (by decide) wr h
    rw [fix3.1, fix3.2.1, fix3.2.2.1, fix3.2.2.2] at this
    exact this
  have HG2 : Hid (∀ wr, Wd wr → Calls Tryd.prog 16 #[.string ⟨#[1, 0, 1, 5, 1, 107]⟩] wr fun x w' => ∃ a cap o n len, x = .returned (.tuple #[.agg #[.int .i64 o, .int .i64 n, .slice a len cap], .int .i64 1]) ∧ Below wr.heap.size wr w') := by
    intro wr h
    have := rndget_any ⟨#[1, 0, 1, 5, 1, 107]⟩ (by decide) wr h
    rw [fix4] at this
    refine this.mono ?_
    rintro x w' ⟨a, cap, rfl, _, hb⟩
    exact ⟨a, cap, _, _, _, rfl, hb⟩
  have HP2 : Hid (∀ wr, Wd wr → Calls Tryd.prog 12 #[.agg #[.int .i64 1, .int .i64 1, .slice none 0 0]] wr fun x w' => ∃ s, x = .returned (.tuple #[.string s, .int .i64 1]) ∧ Below wr.heap.size wr w') := by
    intro wr h
    have := rndput_any 1 1 none 0 0 [] wr h ⟨rfl, fun h => absurd h (Nat.lt_irrefl _)⟩
    rw [fix5] at this
    refine this.mono ?_
    rintro x w' ⟨rfl, hb⟩
    exact ⟨_, rfl, hb⟩
  have HS1 : Hid (∀ wr p a cap, AQ w wr p a cap → Calls Tryd.prog 18 #[.agg #[.int .i64 1, .int .i64 2, .slice a 1 cap], .agg #[.int .i64 1, .int .i64 2, .slice (some ⟨w.heap.size, 0, none⟩) 1 1]] wr fun x w' => x = .returned (.bool true) ∧ Below wr.heap.size wr w') := by
    intro wr p a cap h
    have := docsame_any 1 2 a 1 cap 1 2 (some ⟨w.heap.size, 0, none⟩) 1 1 us1 us1 (by decide) wr h.us h.g.is
    rw [decide_eq_true (show (1 : Int) = 1 ∧ (2 : Int) = 2 ∧ us1 = us1 from ⟨rfl, rfl, rfl⟩)] at this
    exact this
  have HS2 : Hid (∀ wr p a cap, AQ w wr p a cap → Calls Tryd.prog 23 #[.agg #[.int .i64 1, .int .i64 2, .slice (some ⟨w.heap.size, 0, none⟩) 1 1], .agg #[.int .i64 1, .int .i64 2, .slice a 1 cap]] wr fun x w' => x = .returned (.bool true) ∧ Below wr.heap.size wr w') := by
    intro wr p a cap h
    have := rndsame_any 1 2 (some ⟨w.heap.size, 0, none⟩) 1 1 1 2 a 1 cap us1 us1 (by decide) wr h.g.is h.us
    rw [decide_eq_true (show (1 : Int) = 1 ∧ (2 : Int) = 2 ∧ us1 = us1 from ⟨rfl, rfl, rfl⟩)] at this
    exact this
  have HF1 : Hid (∀ wr, AW w wr → Calls Tryd.prog 20 #[.slice (some ⟨w.heap.size, 0, none⟩) 1 1, .int .i64 64] wr fun x w' => x = .returned (.bool true) ∧ Below wr.heap.size wr w') := by
    intro wr h
    have := rndfits_any (some ⟨w.heap.size, 0, none⟩) 1 1 us1 64 wr h.d h.is
    rw [fix6] at this
    exact this
  have HF2 : Hid (∀ wr, AW w wr → Calls Tryd.prog 20 #[.slice (some ⟨w.heap.size, 0, none⟩) 1 1, .int .i64 63] wr fun x w' => x = .returned (.bool false) ∧ Below wr.heap.size wr w') := by
    intro wr h
    have := rndfits_any (some ⟨w.heap.size, 0, none⟩) 1 1 us1 63 wr h.d h.is
    rw [fix7] at this
    exact this
  have ha := AW.start h
  have c0 := ha.rb.c0
  have c1 := ha.rb.c1
  have c2 := ha.rb.c2
  have HA := Lib.hid ha
  clear ha h
  go_enter Tryd.func10, Tryd.ntmps10
  go_wp2_with fail
  refine (HP1.out _ HA.out).mono ?_
  rintro e w1 ⟨rfl, hb⟩
  have HA1 := Lib.hid (HA.out.next hb)
  clear hb HA HP1 c0 c1 c2
  go_wp2_with fail
  refine (HG1.out _ HA1.out.d).mono ?_
  rintro e w2 ⟨a, cap, rfl, hu, hb⟩
  have hbA := Joins.below_alloc1 w2 (.cells #[.int .i64 1, .int .i64 2, .slice a 1 cap] 24)
  have HQ := Lib.hid (AQ.mk ((HA1.out.next hb).next hbA) (Rb.new w2 1 2 a 1 cap) (isUs_below hu hbA))
  clear hb hu hbA HA1 HG1
  go_wp2_with fail
  generalize w2.heap.size = p at *
  refine (HG2.out _ HQ.out.g.d).mono ?_
  rintro e w3 ⟨a', cap', o', n', len', rfl, hb⟩
  have HQ1 := Lib.hid ((HQ.out.next hb).next (Joins.below_alloc1 w3 (.cells #[.int .i64 o', .int .i64 n', .slice a' len' cap'] 24)))
  clear hb HQ HG2
  go_wp2_with fail
  refine (HP2.out _ HQ1.out.g.d).mono ?_
  rintro e w4 ⟨s4, rfl, hb⟩
  have hq := HQ1.out.next hb
  have c0 := hq.g.rb.c0
  have c1 := hq.g.rb.c1
  have c2 := hq.g.rb.c2
  have d0 := hq.rb.c0
  have d1 := hq.rb.c1
  have d2 := hq.rb.c2
  have HQ2 := Lib.hid hq
  clear hb hq HQ1 HP2
  go_wp2_with fail
  refine (HS1.out _ _ _ _ HQ2.out).mono ?_
  rintro e w5 ⟨rfl, hb⟩
  have hq := HQ2.out.next hb
  have c2 := hq.g.rb.c2
  have HQ3 := Lib.hid hq
  clear hb hq HQ2 HS1 c0 c1 d0 d1 d2
  go_wp2_with fail
  refine (HF1.out _ HQ3.out.g).mono ?_
  rintro e w6 ⟨rfl, hb⟩
  have hq := HQ3.out.next hb
  have c2 := hq.g.rb.c2
  have HQ4 := Lib.hid hq
  clear hb hq HQ3 HF1
  go_wp2_with fail
  refine (HF2.out _ HQ4.out.g).mono ?_
  rintro e w7 ⟨rfl, hb⟩
  have hq := HQ4.out.next hb
  have c0 := hq.g.rb.c0
  have c1 := hq.g.rb.c1
  have c2 := hq.g.rb.c2
  have d0 := hq.rb.c0
  have d1 := hq.rb.c1
  have d2 := hq.rb.c2
  have HQ5 := Lib.hid hq
  clear hb hq HQ4 HF2
  go_wp2_with fail
  refine (HS2.out _ _ _ _ HQ5.out).mono ?_
  rintro e w8 ⟨rfl, hb⟩
  have HB := Lib.hid (HQ5.out.next hb).g.bel
  clear hb HQ5 HS2 c0 c1 c2 d0 d1 d2
  go_wp2
  go_ret
  exact ⟨rfl, HB.out⟩
end Go.Proofs.YtcknklodnfabpaaDoor
