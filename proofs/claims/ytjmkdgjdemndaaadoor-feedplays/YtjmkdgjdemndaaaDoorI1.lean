/- round.May, and the document's. -/
import Derived.Test.YtjmkdgjdemndaaaDoorI0
namespace Go.Proofs.YtjmkdgjdemndaaaDoor
open Go Go.RowKit
set_option maxHeartbeats 400000 in
theorem within_yes (n g : Int) (h : 1 ≤ n ∧ n ≤ g) (w : World) : Calls Tryd.prog 85 #[.int .i64 n, .int .i64 g] w fun x w' => x = .returned (.bool true) ∧ w = w' := by
  have q1 : decide ((1 : Int) ≤ n) = true := decide_eq_true h.1
  have q2 : decide (n ≤ g) = true := decide_eq_true h.2
  clear h
  go_enter Tryd.func85, Tryd.ntmps85
  go_wp2
  go_ret
  exact ⟨rfl, rfl⟩
set_option maxHeartbeats 400000 in
theorem within_no (n g : Int) (h : ¬ (1 ≤ n ∧ n ≤ g)) (w : World) : Calls Tryd.prog 85 #[.int .i64 n, .int .i64 g] w fun x w' => x = .returned (.bool false) ∧ w = w' := by
  by_cases h1 : 1 ≤ n
  · have q1 : decide ((1 : Int) ≤ n) = true := decide_eq_true h1
    have q2 : decide (n ≤ g) = false := decide_eq_false (fun h2 => h ⟨h1, h2⟩)
    clear h
    go_enter Tryd.func85, Tryd.ntmps85
    go_wp2
    go_ret
    exact ⟨rfl, rfl⟩
  · have q1 : decide ((1 : Int) ≤ n) = false := decide_eq_false h1
    clear h
    go_enter Tryd.func85, Tryd.ntmps85
    go_wp2
    go_ret
    exact ⟨rfl, rfl⟩
set_option maxHeartbeats 1000000 in
theorem rmay_1 (o n : Int) (a : Option Addr) (len cap : Nat) (h : ¬ (1 ≤ o ∧ o ≤ 64)) (w : World) :
    Calls Tryd.prog 67 #[.agg #[.int .i64 o, .int .i64 n, .slice a len cap]] w fun x w' => x = .returned (.int .i64 1) ∧ Below w.heap.size w w' := by
  have hr := Rb.new w o n a len cap
  have c0 := hr.c0
  have HB := Lib.hid (Joins.below_alloc1 w (.cells #[.int .i64 o, .int .i64 n, .slice a len cap] 43))
  have HW := Lib.hid (fun w => within_no o 64 h w)
  clear hr h
  go_enter Tryd.func67, Tryd.ntmps67
  go_wp2_with fail
  refine (HW.out _).mono ?_
  rintro x w1 ⟨rfl, rfl⟩
  go_wp2
  go_ret
  exact ⟨rfl, HB.out⟩
set_option maxHeartbeats 1000000 in
theorem rmay_2 (o n : Int) (a : Option Addr) (len cap : Nat) (h1 : 1 ≤ o ∧ o ≤ 64) (h : ¬ (1 ≤ n ∧ n ≤ 1099511627776)) (w : World) :
    Calls Tryd.prog 67 #[.agg #[.int .i64 o, .int .i64 n, .slice a len cap]] w fun x w' => x = .returned (.int .i64 1) ∧ Below w.heap.size w w' := by
  have hr := Rb.new w o n a len cap
  have c0 := hr.c0
  have c1 := hr.c1
  have HB := Lib.hid (Joins.below_alloc1 w (.cells #[.int .i64 o, .int .i64 n, .slice a len cap] 43))
  have HW := Lib.hid (fun w => within_yes o 64 h1 w)
  have HV := Lib.hid (fun w => within_no n 1099511627776 h w)
  clear hr h h1
  go_enter Tryd.func67, Tryd.ntmps67
  go_wp2_with fail
  refine (HW.out _).mono ?_
  rintro x w1 ⟨rfl, rfl⟩
  go_wp2_with fail
  refine (HV.out _).mono ?_
  rintro x w1 ⟨rfl, rfl⟩
  go_wp2
  go_ret
  exact ⟨rfl, HB.out⟩
set_option maxHeartbeats 1000000 in
theorem rmay_3 (o n : Int) (a : Option Addr) (len cap : Nat) (h1 : 1 ≤ o ∧ o ≤ 64) (h2 : 1 ≤ n ∧ n ≤ 1099511627776) (h : ¬ (1 ≤ (len : Int) ∧ (len : Int) ≤ 8)) (w : World) :
    Calls Tryd.prog 67 #[.agg #[.int .i64 o, .int .i64 n, .slice a len cap]] w fun x w' => x = .returned (.int .i64 1) ∧ Below w.heap.size w w' := by
  have hr := Rb.new w o n a len cap
  have c0 := hr.c0
  have c1 := hr.c1
  have c2 := hr.c2
  have HB := Lib.hid (Joins.below_alloc1 w (.cells #[.int .i64 o, .int .i64 n, .slice a len cap] 43))
  have HW := Lib.hid (fun w => within_yes o 64 h1 w)
  have HV := Lib.hid (fun w => within_yes n 1099511627776 h2 w)
  have HX := Lib.hid (fun w => within_no (len : Int) 8 h w)
  clear hr h h1 h2
  go_enter Tryd.func67, Tryd.ntmps67
  go_wp2_with fail
  refine (HW.out _).mono ?_
  rintro x w1 ⟨rfl, rfl⟩
  go_wp2_with fail
  refine (HV.out _).mono ?_
  rintro x w1 ⟨rfl, rfl⟩
  go_wp2_with fail
  refine (HX.out _).mono ?_
  rintro x w1 ⟨rfl, rfl⟩
  go_wp2
  go_ret
  exact ⟨rfl, HB.out⟩
set_option maxHeartbeats 2000000 in
theorem rmay_4 (o n : Int) (a : Option Addr) (len cap : Nat) (us : List Up) (h1 : 1 ≤ o ∧ o ≤ 64) (h2 : 1 ≤ n ∧ n ≤ 1099511627776) (h3 : 1 ≤ (len : Int) ∧ (len : Int) ≤ 8) (m : Int) (hm : mayL us = m) (w : World) (hu : IsUs w a len us) :
    Calls Tryd.prog 67 #[.agg #[.int .i64 o, .int .i64 n, .slice a len cap]] w fun x w' => x = .returned (.int .i64 m) ∧ Below w.heap.size w w' := by
  have hr := Rb.new w o n a len cap
  have c0 := hr.c0
  have c1 := hr.c1
  have c2 := hr.c2
  have hsz := hu.size
  have hl8 : len ≤ 8 := by omega
  have HU := Lib.hid hu
  have HM := Lib.hid hm
  have HB := Lib.hid (Joins.below_alloc1 w (.cells #[.int .i64 o, .int .i64 n, .slice a len cap] 43))
  have HW := Lib.hid (fun w => within_yes o 64 h1 w)
  have HV := Lib.hid (fun w => within_yes n 1099511627776 h2 w)
  have HX := Lib.hid (fun w => within_yes (len : Int) 8 h3 w)
  clear hr h1 h2 h3 hu hm
  go_enter Tryd.func67, Tryd.ntmps67
  go_wp2_with fail
  refine (HW.out _).mono ?_
  rintro x w1 ⟨rfl, rfl⟩
  go_wp2_with fail
  refine (HV.out _).mono ?_
  rintro x w1 ⟨rfl, rfl⟩
  go_wp2_with fail
  refine (HX.out _).mono ?_
  rintro x w1 ⟨rfl, rfl⟩
  go_wp2_with fail
  clear HW HV HX c0 c1 c2
  go_loopw [26] (fun v26 wr => ∃ k : Nat, k ≤ len ∧ v26 = .int .i64 k ∧ mayL (us.drop k) = m ∧ Below w.heap.size w wr) (fun v26 _ => len - (intOf v26).toNat)
  case atStart => exact ⟨0, Nat.zero_le _, rfl, HM.out, HB.out⟩
  case round =>
    obtain ⟨k, hk, rfl, hmk, hbel⟩ := hrel
    clear HB HM
    by_cases hlt : k < len
    · obtain ⟨b, off, rfl, hbl, c0, c1, c2, c3⟩ := cells_of HU.out hbel hlt
      have HC := fun w => Lib.hid (may_any (us.getD k up0) w)
      rw [mayL_step us k (by omega)] at hmk
      have HMK := Lib.hid hmk
      have HBEL := Lib.hid hbel
      clear hmk hbel hbl
      by_cases hz : mayE (us.getD k up0) = 0
      · have HMK2 : Hid (mayL (us.drop (k + 1)) = m) := by have := HMK.out; rw [if_pos hz] at this; exact this
        rw [hz] at HC
        clear HMK hz
        generalize us.getD k up0 = u at *
        obtain ⟨key, x, nn, s⟩ := u
        simp only [uu] at c0 c1 c2 c3 HC
        go_wp2_with fail
        refine (HC _).out.mono ?_
        rintro e w2 ⟨rfl, hb⟩
        have HB2 := Lib.hid (Below.next (HBEL.out.alloc HBEL.out.size _) hb)
        clear hb HBEL HC
        go_wp2
        go_roundw
        case rel => exact ⟨k + 1, by omega, by go_num, HMK2.out, HB2.out⟩
        case measure => simp [intOf]; omega
      · have hmm : mayE (us.getD k up0) = m := by have := HMK.out; rw [if_neg hz] at this; exact this
        rw [hmm] at HC hz
        have k1 : (m == 0) = false := by rw [beq_eq_false_iff_ne]; exact hz
        clear HMK hmm hz
        generalize us.getD k up0 = u at *
        obtain ⟨key, x, nn, s⟩ := u
        simp only [uu] at c0 c1 c2 c3 HC
        go_wp2_with fail
        refine (HC _).out.mono ?_
        rintro e w2 ⟨rfl, hb⟩
        have HB2 := Lib.hid (Below.next (HBEL.out.alloc HBEL.out.size _) hb)
        clear hb HBEL HC
        go_wp2
        go_ret
        exact ⟨rfl, HB2.out⟩
    · obtain rfl : k = len := by omega
      have hm0 : m = 0 := by rw [← hmk, ← hsz]; exact mayL_end us
      have HBEL := Lib.hid hbel
      clear hmk hbel
      subst hm0
      go_wp2
      go_ret
      exact ⟨rfl, HBEL.out⟩
theorem rndmay_any (o n : Int) (a : Option Addr) (len cap : Nat) (us : List Up) (w : World) (hu : IsUs w a len us) :
    Calls Tryd.prog 67 #[.agg #[.int .i64 o, .int .i64 n, .slice a len cap]] w fun x w' => x = .returned (.int .i64 (mayR o n us)) ∧ Below w.heap.size w w' := by
  have hs := hu.size
  by_cases h : headOk o n us.length
  · rw [mayR_yes h]
    unfold headOk at h
    exact rmay_4 o n a len cap us ⟨h.1, h.2.1⟩ ⟨h.2.2.1, h.2.2.2.1⟩ (by omega) _ rfl w hu
  · rw [mayR_no h]
    by_cases h1 : 1 ≤ o ∧ o ≤ 64
    · by_cases h2 : 1 ≤ n ∧ n ≤ 1099511627776
      · exact rmay_3 o n a len cap h1 h2 (fun h3 => h ⟨h1.1, h1.2, h2.1, h2.2, by omega, by omega⟩) w
      · exact rmay_2 o n a len cap h1 h2 w
    · exact rmay_1 o n a len cap h1 w
set_option maxHeartbeats 1000000 in
theorem dmay_0 (o n : Int) (a : Option Addr) (len cap : Nat)  (_p0 : o < 1) (w : World) :
    Calls Tryd.prog 44 #[.agg #[.int .i64 o, .int .i64 n, .slice a len cap]] w fun x w' => x = .returned (.int .i64 1) ∧ Below w.heap.size w w' := by
  have q0 : decide (o < 1) = true := decide_eq_true _p0
  have hr := Rb.new w o n a len cap
  have c0 := hr.c0
  have c1 := hr.c1
  have c2 := hr.c2
  have HB := Lib.hid (Joins.below_alloc1 w (.cells #[.int .i64 o, .int .i64 n, .slice a len cap] 43))
  clear hr _p0
  go_enter Tryd.func44, Tryd.ntmps44
  go_wp2
  go_ret
  exact ⟨rfl, HB.out⟩
set_option maxHeartbeats 1000000 in
theorem dmay_1 (o n : Int) (a : Option Addr) (len cap : Nat) (_p0 : 1 ≤ o) (_p1 : 64 < o) (w : World) :
    Calls Tryd.prog 44 #[.agg #[.int .i64 o, .int .i64 n, .slice a len cap]] w fun x w' => x = .returned (.int .i64 1) ∧ Below w.heap.size w w' := by
  have q0 : decide (o < 1) = false := decide_eq_false (by omega)
  have q1 : decide (64 < o) = true := decide_eq_true _p1
  have hr := Rb.new w o n a len cap
  have c0 := hr.c0
  have c1 := hr.c1
  have c2 := hr.c2
  have HB := Lib.hid (Joins.below_alloc1 w (.cells #[.int .i64 o, .int .i64 n, .slice a len cap] 43))
  clear hr _p0 _p1
  go_enter Tryd.func44, Tryd.ntmps44
  go_wp2
  go_ret
  exact ⟨rfl, HB.out⟩
set_option maxHeartbeats 1000000 in
theorem dmay_2 (o n : Int) (a : Option Addr) (len cap : Nat) (_p0 : 1 ≤ o) (_p1 : o ≤ 64) (_p2 : n < 1) (w : World) :
    Calls Tryd.prog 44 #[.agg #[.int .i64 o, .int .i64 n, .slice a len cap]] w fun x w' => x = .returned (.int .i64 1) ∧ Below w.heap.size w w' := by
  have q0 : decide (o < 1) = false := decide_eq_false (by omega)
  have q1 : decide (64 < o) = false := decide_eq_false (by omega)
  have q2 : decide (n < 1) = true := decide_eq_true _p2
  have hr := Rb.new w o n a len cap
  have c0 := hr.c0
  have c1 := hr.c1
  have c2 := hr.c2
  have HB := Lib.hid (Joins.below_alloc1 w (.cells #[.int .i64 o, .int .i64 n, .slice a len cap] 43))
  clear hr _p0 _p1 _p2
  go_enter Tryd.func44, Tryd.ntmps44
  go_wp2
  go_ret
  exact ⟨rfl, HB.out⟩
set_option maxHeartbeats 1000000 in
theorem dmay_3 (o n : Int) (a : Option Addr) (len cap : Nat) (_p0 : 1 ≤ o) (_p1 : o ≤ 64) (_p2 : 1 ≤ n) (_p3 : 1099511627776 < n) (w : World) :
    Calls Tryd.prog 44 #[.agg #[.int .i64 o, .int .i64 n, .slice a len cap]] w fun x w' => x = .returned (.int .i64 1) ∧ Below w.heap.size w w' := by
  have q0 : decide (o < 1) = false := decide_eq_false (by omega)
  have q1 : decide (64 < o) = false := decide_eq_false (by omega)
  have q2 : decide (n < 1) = false := decide_eq_false (by omega)
  have q3 : decide (1099511627776 < n) = true := decide_eq_true _p3
  have hr := Rb.new w o n a len cap
  have c0 := hr.c0
  have c1 := hr.c1
  have c2 := hr.c2
  have HB := Lib.hid (Joins.below_alloc1 w (.cells #[.int .i64 o, .int .i64 n, .slice a len cap] 43))
  clear hr _p0 _p1 _p2 _p3
  go_enter Tryd.func44, Tryd.ntmps44
  go_wp2
  go_ret
  exact ⟨rfl, HB.out⟩
set_option maxHeartbeats 1000000 in
theorem dmay_4 (o n : Int) (a : Option Addr) (len cap : Nat) (_p0 : 1 ≤ o) (_p1 : o ≤ 64) (_p2 : 1 ≤ n) (_p3 : n ≤ 1099511627776) (_p4 : (len : Int) < 1) (w : World) :
    Calls Tryd.prog 44 #[.agg #[.int .i64 o, .int .i64 n, .slice a len cap]] w fun x w' => x = .returned (.int .i64 1) ∧ Below w.heap.size w w' := by
  have q0 : decide (o < 1) = false := decide_eq_false (by omega)
  have q1 : decide (64 < o) = false := decide_eq_false (by omega)
  have q2 : decide (n < 1) = false := decide_eq_false (by omega)
  have q3 : decide (1099511627776 < n) = false := decide_eq_false (by omega)
  have q4 : decide ((len : Int) < 1) = true := decide_eq_true _p4
  have hr := Rb.new w o n a len cap
  have c0 := hr.c0
  have c1 := hr.c1
  have c2 := hr.c2
  have HB := Lib.hid (Joins.below_alloc1 w (.cells #[.int .i64 o, .int .i64 n, .slice a len cap] 43))
  clear hr _p0 _p1 _p2 _p3 _p4
  go_enter Tryd.func44, Tryd.ntmps44
  go_wp2
  go_ret
  exact ⟨rfl, HB.out⟩
set_option maxHeartbeats 1000000 in
theorem dmay_5 (o n : Int) (a : Option Addr) (len cap : Nat) (_p0 : 1 ≤ o) (_p1 : o ≤ 64) (_p2 : 1 ≤ n) (_p3 : n ≤ 1099511627776) (_p4 : 1 ≤ (len : Int)) (_p5 : 8 < (len : Int)) (w : World) :
    Calls Tryd.prog 44 #[.agg #[.int .i64 o, .int .i64 n, .slice a len cap]] w fun x w' => x = .returned (.int .i64 1) ∧ Below w.heap.size w w' := by
  have q0 : decide (o < 1) = false := decide_eq_false (by omega)
  have q1 : decide (64 < o) = false := decide_eq_false (by omega)
  have q2 : decide (n < 1) = false := decide_eq_false (by omega)
  have q3 : decide (1099511627776 < n) = false := decide_eq_false (by omega)
  have q4 : decide ((len : Int) < 1) = false := decide_eq_false (by omega)
  have q5 : decide (8 < (len : Int)) = true := decide_eq_true _p5
  have hr := Rb.new w o n a len cap
  have c0 := hr.c0
  have c1 := hr.c1
  have c2 := hr.c2
  have HB := Lib.hid (Joins.below_alloc1 w (.cells #[.int .i64 o, .int .i64 n, .slice a len cap] 43))
  clear hr _p0 _p1 _p2 _p3 _p4 _p5
  go_enter Tryd.func44, Tryd.ntmps44
  go_wp2
  go_ret
  exact ⟨rfl, HB.out⟩
set_option maxHeartbeats 2000000 in
theorem dmay_6 (o n : Int) (a : Option Addr) (len cap : Nat) (us : List Up) (h1 : 1 ≤ o ∧ o ≤ 64) (h2 : 1 ≤ n ∧ n ≤ 1099511627776) (h3 : 1 ≤ (len : Int) ∧ (len : Int) ≤ 8) (m : Int) (hm : mayL us = m) (w : World) (hu : IsUs w a len us) :
    Calls Tryd.prog 44 #[.agg #[.int .i64 o, .int .i64 n, .slice a len cap]] w fun x w' => x = .returned (.int .i64 m) ∧ Below w.heap.size w w' := by
  have q0 : decide (o < 1) = false := decide_eq_false (by omega)
  have q1 : decide (64 < o) = false := decide_eq_false (by omega)
  have q2 : decide (n < 1) = false := decide_eq_false (by omega)
  have q3 : decide (1099511627776 < n) = false := decide_eq_false (by omega)
  have q4 : decide ((len : Int) < 1) = false := decide_eq_false (by omega)
  have q5 : decide (8 < (len : Int)) = false := decide_eq_false (by omega)
  have hr := Rb.new w o n a len cap
  have c0 := hr.c0
  have c1 := hr.c1
  have c2 := hr.c2
  have hsz := hu.size
  have hl8 : len ≤ 8 := by omega
  have HU := Lib.hid hu
  have HM := Lib.hid hm
  have HR := Lib.hid hr
  have HB := Lib.hid (Joins.below_alloc1 w (.cells #[.int .i64 o, .int .i64 n, .slice a len cap] 43))
  clear hr h1 h2 h3 hu hm
  go_enter Tryd.func44, Tryd.ntmps44
  go_wp2_with fail
  clear c0 c1 c2 q0 q1 q2 q3 q4 q5
  go_loopw [4] (fun v4 wr => ∃ k : Nat, k ≤ len ∧ v4 = .int .i64 k ∧ mayL (us.drop k) = m ∧ Rb wr w.heap.size o n a len cap ∧ Below w.heap.size w wr) (fun v4 _ => len - (intOf v4).toNat)
  case atStart => exact ⟨0, Nat.zero_le _, rfl, HM.out, HR.out, HB.out⟩
  case round =>
    obtain ⟨k, hk, rfl, hmk, hr, hbel⟩ := hrel
    clear HB HM HR
    have d2 := hr.c2
    have HR := Lib.hid hr
    clear hr
    by_cases hlt : k < len
    · obtain ⟨b, off, rfl, hbl, c0, c1, c2, c3⟩ := cells_of HU.out hbel hlt
      have HC := fun w => Lib.hid (rmay_any (us.getD k up0) w)
      rw [mayL_step us k (by omega)] at hmk
      have HMK := Lib.hid hmk
      have HBEL := Lib.hid hbel
      clear hmk hbel hbl
      by_cases hz : mayE (us.getD k up0) = 0
      · have HMK2 : Hid (mayL (us.drop (k + 1)) = m) := by have := HMK.out; rw [if_pos hz] at this; exact this
        rw [hz] at HC
        clear HMK hz
        generalize us.getD k up0 = u at *
        obtain ⟨key, x, nn, s⟩ := u
        simp only [uu] at c0 c1 c2 c3 HC
        go_wp2_with fail
        refine (HC _).out.mono ?_
        rintro e w2 ⟨rfl, hb⟩
        have HB2 := Lib.hid (Below.next HBEL.out hb)
        have HR2 := Lib.hid (HR.out.next hb)
        clear hb HBEL HC HR d2
        go_wp2
        go_roundw
        case rel => exact ⟨k + 1, by omega, by go_num, HMK2.out, HR2.out, HB2.out⟩
        case measure => simp [intOf]; omega
      · have hmm : mayE (us.getD k up0) = m := by have := HMK.out; rw [if_neg hz] at this; exact this
        rw [hmm] at HC hz
        have k1 : (m == 0) = false := by rw [beq_eq_false_iff_ne]; exact hz
        clear HMK hmm hz
        generalize us.getD k up0 = u at *
        obtain ⟨key, x, nn, s⟩ := u
        simp only [uu] at c0 c1 c2 c3 HC
        go_wp2_with fail
        refine (HC _).out.mono ?_
        rintro e w2 ⟨rfl, hb⟩
        have HB2 := Lib.hid (Below.next HBEL.out hb)
        clear hb HBEL HC HR d2
        go_wp2
        go_ret
        exact ⟨rfl, HB2.out⟩
    · obtain rfl : k = len := by omega
      have hm0 : m = 0 := by rw [← hmk, ← hsz]; exact mayL_end us
      have HBEL := Lib.hid hbel
      clear hmk hbel
      subst hm0
      go_wp2
      go_ret
      exact ⟨rfl, HBEL.out⟩
theorem docmay_any (o n : Int) (a : Option Addr) (len cap : Nat) (us : List Up) (w : World) (hu : IsUs w a len us) :
    Calls Tryd.prog 44 #[.agg #[.int .i64 o, .int .i64 n, .slice a len cap]] w fun x w' => x = .returned (.int .i64 (mayR o n us)) ∧ Below w.heap.size w w' := by
  have hs := hu.size
  by_cases h : headOk o n us.length
  · rw [mayR_yes h]
    unfold headOk at h
    exact dmay_6 o n a len cap us ⟨h.1, h.2.1⟩ ⟨h.2.2.1, h.2.2.2.1⟩ (by omega) _ rfl w hu
  · rw [mayR_no h]
    by_cases p0 : o < 1
    · exact dmay_0 o n a len cap p0 w
    by_cases p1 : 64 < o
    · exact dmay_1 o n a len cap (by omega) p1 w
    by_cases p2 : n < 1
    · exact dmay_2 o n a len cap (by omega) (by omega) p2 w
    by_cases p3 : 1099511627776 < n
    · exact dmay_3 o n a len cap (by omega) (by omega) (by omega) p3 w
    by_cases p4 : (len : Int) < 1
    · exact dmay_4 o n a len cap (by omega) (by omega) (by omega) (by omega) p4 w
    by_cases p5 : 8 < (len : Int)
    · exact dmay_5 o n a len cap (by omega) (by omega) (by omega) (by omega) (by omega) p5 w
    exact absurd ⟨by omega, by omega, by omega, by omega, by omega, by omega⟩ h
end Go.Proofs.YtjmkdgjdemndaaaDoor
