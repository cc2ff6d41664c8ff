/- The document's Bytes; Put, both. -/
import Derived.Test.YtpdpmdbdnpemnaaDoorUW
import Derived.Test.YtpdpmdbdnpemnaaDoorU5
namespace Go.Proofs.YtpdpmdbdnpemnaaDoor
open Go Go.RowKit
set_option maxHeartbeats 1000000 in
theorem byt_1 (key t : ByteArray) (n : Int) (hkey : key.size ≤ 1000) (w : World) :
    Calls Tryd.prog 26 #[.agg #[.string key, .int .i64 1, .int .i64 n, .string t]] w fun x w' => x = .returned (.string (pxN 1 ++ pxT key ++ pxS n)) ∧ Below w.heap.size w w' := by
  have z1 := pxN_size 1
  have z2 := pxT_size key (by omega)
  have HN := Lib.hid (fun w => rfN_any 1 (by decide) w)
  have HT := Lib.hid (fun w => rfT_any key (by omega) w)
  have z3 := pxS_size n
  have HX := Lib.hid (fun w => rfS_any n w)
  rw [decide_eq_true (show okN 1 by decide)] at HN
  generalize pxN 1 = p1 at *
  generalize pxT key = p2 at *
  generalize pxS n = p3 at *
  generalize decide (okS n) = ok at *
  have y1 : ¬ 9223372036854775807 < p1.size + p2.size := by omega
  have y2 : ¬ 9223372036854775807 < (p1 ++ p2).size + p3.size := by rw [ByteArray.size_append]; omega
  have hu0 := Ub.new w (key, 1, n, t)
  have c1 := hu0.c1
  have c0 := hu0.c0
  have HU0 := Lib.hid hu0
  have HB0 := Lib.hid (Joins.below_alloc1 w (.cells #[.string key, .int .i64 1, .int .i64 n, .string t] 23))
  clear hu0
  go_enter Tryd.func26, Tryd.ntmps26
  go_wp2_with fail
  refine (HN.out _).mono ?_
  rintro x w1 ⟨rfl, hb⟩
  have hu := HU0.out.below hb HU0.out.lt
  have HB1 := Lib.hid (HB0.out.trans (hb.mono HB0.out.size))
  have c0 := hu.c0
  have c1 := hu.c1
  have HU1 := Lib.hid hu
  clear hb hu HB0 HU0
  go_wp2_with fail
  refine (HT.out _).mono ?_
  rintro x w2 ⟨rfl, hb⟩
  have hu := HU1.out.below hb HU1.out.lt
  have HB2 := Lib.hid (HB1.out.trans (hb.mono HB1.out.size))
  have c0 := hu.c0
  have c1 := hu.c1
  have c2 := hu.c2
  have c3 := hu.c3
  have HU2 := Lib.hid hu
  clear hb hu HB1 HU1
  go_wp2_with fail
  refine (HX.out _).mono ?_
  rintro x w3 ⟨rfl, hb⟩
  have hu := HU2.out.below hb HU2.out.lt
  have HB3 := Lib.hid (HB2.out.trans (hb.mono HB2.out.size))
  have c1 := hu.c1
  clear hb hu HB2 HU2
  go_wp2
  go_ret
  exact ⟨rfl, HB3.out⟩
set_option maxHeartbeats 1000000 in
theorem byt_2 (key t : ByteArray) (n : Int) (hkey : key.size ≤ 1000) (hs : t.size ≤ 1000) (w : World) :
    Calls Tryd.prog 26 #[.agg #[.string key, .int .i64 2, .int .i64 n, .string t]] w fun x w' => x = .returned (.string (pxN 2 ++ pxT key ++ pxT t)) ∧ Below w.heap.size w w' := by
  have z1 := pxN_size 2
  have z2 := pxT_size key (by omega)
  have HN := Lib.hid (fun w => rfN_any 2 (by decide) w)
  have HT := Lib.hid (fun w => rfT_any key (by omega) w)
  have z3 := pxT_size t (by omega)
  have HX := Lib.hid (fun w => rfT_any t (by omega) w)
  rw [decide_eq_true (show okN 2 by decide)] at HN
  generalize pxN 2 = p1 at *
  generalize pxT key = p2 at *
  generalize pxT t = p3 at *
  have y1 : ¬ 9223372036854775807 < p1.size + p2.size := by omega
  have y2 : ¬ 9223372036854775807 < (p1 ++ p2).size + p3.size := by rw [ByteArray.size_append]; omega
  have hu0 := Ub.new w (key, 2, n, t)
  have c1 := hu0.c1
  have c0 := hu0.c0
  have HU0 := Lib.hid hu0
  have HB0 := Lib.hid (Joins.below_alloc1 w (.cells #[.string key, .int .i64 2, .int .i64 n, .string t] 23))
  clear hu0
  go_enter Tryd.func26, Tryd.ntmps26
  go_wp2_with fail
  refine (HN.out _).mono ?_
  rintro x w1 ⟨rfl, hb⟩
  have hu := HU0.out.below hb HU0.out.lt
  have HB1 := Lib.hid (HB0.out.trans (hb.mono HB0.out.size))
  have c0 := hu.c0
  have c1 := hu.c1
  have HU1 := Lib.hid hu
  clear hb hu HB0 HU0
  go_wp2_with fail
  refine (HT.out _).mono ?_
  rintro x w2 ⟨rfl, hb⟩
  have hu := HU1.out.below hb HU1.out.lt
  have HB2 := Lib.hid (HB1.out.trans (hb.mono HB1.out.size))
  have c0 := hu.c0
  have c1 := hu.c1
  have c2 := hu.c2
  have c3 := hu.c3
  have HU2 := Lib.hid hu
  clear hb hu HB1 HU1
  go_wp2_with fail
  refine (HX.out _).mono ?_
  rintro x w3 ⟨rfl, hb⟩
  have hu := HU2.out.below hb HU2.out.lt
  have HB3 := Lib.hid (HB2.out.trans (hb.mono HB2.out.size))
  have c1 := hu.c1
  clear hb hu HB2 HU2
  go_wp2
  go_ret
  exact ⟨rfl, HB3.out⟩
set_option maxHeartbeats 1000000 in
theorem byt_3 (key t : ByteArray) (n : Int) (hkey : key.size ≤ 1000) (w : World) :
    Calls Tryd.prog 26 #[.agg #[.string key, .int .i64 3, .int .i64 n, .string t]] w fun x w' => x = .returned (.string (pxN 3 ++ pxT key ++ pxS n)) ∧ Below w.heap.size w w' := by
  have z1 := pxN_size 3
  have z2 := pxT_size key (by omega)
  have HN := Lib.hid (fun w => rfN_any 3 (by decide) w)
  have HT := Lib.hid (fun w => rfT_any key (by omega) w)
  have z3 := pxS_size n
  have HX := Lib.hid (fun w => rfS_any n w)
  rw [decide_eq_true (show okN 3 by decide)] at HN
  generalize pxN 3 = p1 at *
  generalize pxT key = p2 at *
  generalize pxS n = p3 at *
  generalize decide (okS n) = ok at *
  have y1 : ¬ 9223372036854775807 < p1.size + p2.size := by omega
  have y2 : ¬ 9223372036854775807 < (p1 ++ p2).size + p3.size := by rw [ByteArray.size_append]; omega
  have hu0 := Ub.new w (key, 3, n, t)
  have c1 := hu0.c1
  have c0 := hu0.c0
  have HU0 := Lib.hid hu0
  have HB0 := Lib.hid (Joins.below_alloc1 w (.cells #[.string key, .int .i64 3, .int .i64 n, .string t] 23))
  clear hu0
  go_enter Tryd.func26, Tryd.ntmps26
  go_wp2_with fail
  refine (HN.out _).mono ?_
  rintro x w1 ⟨rfl, hb⟩
  have hu := HU0.out.below hb HU0.out.lt
  have HB1 := Lib.hid (HB0.out.trans (hb.mono HB0.out.size))
  have c0 := hu.c0
  have c1 := hu.c1
  have HU1 := Lib.hid hu
  clear hb hu HB0 HU0
  go_wp2_with fail
  refine (HT.out _).mono ?_
  rintro x w2 ⟨rfl, hb⟩
  have hu := HU1.out.below hb HU1.out.lt
  have HB2 := Lib.hid (HB1.out.trans (hb.mono HB1.out.size))
  have c0 := hu.c0
  have c1 := hu.c1
  have c2 := hu.c2
  have c3 := hu.c3
  have HU2 := Lib.hid hu
  clear hb hu HB1 HU1
  go_wp2_with fail
  refine (HX.out _).mono ?_
  rintro x w3 ⟨rfl, hb⟩
  have hu := HU2.out.below hb HU2.out.lt
  have HB3 := Lib.hid (HB2.out.trans (hb.mono HB2.out.size))
  have c1 := hu.c1
  clear hb hu HB2 HU2
  go_wp2
  go_ret
  exact ⟨rfl, HB3.out⟩
set_option maxHeartbeats 1000000 in
theorem byt_4 (key t : ByteArray) (n : Int) (hkey : key.size ≤ 1000) (hs : t.size ≤ 1000) (w : World) :
    Calls Tryd.prog 26 #[.agg #[.string key, .int .i64 4, .int .i64 n, .string t]] w fun x w' => x = .returned (.string (pxN 4 ++ pxT key ++ pxT t)) ∧ Below w.heap.size w w' := by
  have z1 := pxN_size 4
  have z2 := pxT_size key (by omega)
  have HN := Lib.hid (fun w => rfN_any 4 (by decide) w)
  have HT := Lib.hid (fun w => rfT_any key (by omega) w)
  have z3 := pxT_size t (by omega)
  have HX := Lib.hid (fun w => rfT_any t (by omega) w)
  rw [decide_eq_true (show okN 4 by decide)] at HN
  generalize pxN 4 = p1 at *
  generalize pxT key = p2 at *
  generalize pxT t = p3 at *
  have y1 : ¬ 9223372036854775807 < p1.size + p2.size := by omega
  have y2 : ¬ 9223372036854775807 < (p1 ++ p2).size + p3.size := by rw [ByteArray.size_append]; omega
  have hu0 := Ub.new w (key, 4, n, t)
  have c1 := hu0.c1
  have c0 := hu0.c0
  have HU0 := Lib.hid hu0
  have HB0 := Lib.hid (Joins.below_alloc1 w (.cells #[.string key, .int .i64 4, .int .i64 n, .string t] 23))
  clear hu0
  go_enter Tryd.func26, Tryd.ntmps26
  go_wp2_with fail
  refine (HN.out _).mono ?_
  rintro x w1 ⟨rfl, hb⟩
  have hu := HU0.out.below hb HU0.out.lt
  have HB1 := Lib.hid (HB0.out.trans (hb.mono HB0.out.size))
  have c0 := hu.c0
  have c1 := hu.c1
  have HU1 := Lib.hid hu
  clear hb hu HB0 HU0
  go_wp2_with fail
  refine (HT.out _).mono ?_
  rintro x w2 ⟨rfl, hb⟩
  have hu := HU1.out.below hb HU1.out.lt
  have HB2 := Lib.hid (HB1.out.trans (hb.mono HB1.out.size))
  have c0 := hu.c0
  have c1 := hu.c1
  have c2 := hu.c2
  have c3 := hu.c3
  have HU2 := Lib.hid hu
  clear hb hu HB1 HU1
  go_wp2_with fail
  refine (HX.out _).mono ?_
  rintro x w3 ⟨rfl, hb⟩
  have hu := HU2.out.below hb HU2.out.lt
  have HB3 := Lib.hid (HB2.out.trans (hb.mono HB2.out.size))
  have c1 := hu.c1
  clear hb hu HB2 HU2
  go_wp2
  go_ret
  exact ⟨rfl, HB3.out⟩
set_option maxHeartbeats 1000000 in
theorem byt_5 (key t : ByteArray) (n : Int) (hkey : key.size ≤ 1000) (w : World) :
    Calls Tryd.prog 26 #[.agg #[.string key, .int .i64 5, .int .i64 n, .string t]] w fun x w' => x = .returned (.string (pxN 5 ++ pxT key)) ∧ Below w.heap.size w w' := by
  have z1 := pxN_size 5
  have z2 := pxT_size key (by omega)
  have HN := Lib.hid (fun w => rfN_any 5 (by decide) w)
  have HT := Lib.hid (fun w => rfT_any key (by omega) w)
  rw [decide_eq_true (show okN 5 by decide)] at HN
  generalize pxN 5 = p1 at *
  generalize pxT key = p2 at *
  have y1 : ¬ 9223372036854775807 < p1.size + p2.size := by omega
  have hu0 := Ub.new w (key, 5, n, t)
  have c1 := hu0.c1
  have c0 := hu0.c0
  have HU0 := Lib.hid hu0
  have HB0 := Lib.hid (Joins.below_alloc1 w (.cells #[.string key, .int .i64 5, .int .i64 n, .string t] 23))
  clear hu0
  go_enter Tryd.func26, Tryd.ntmps26
  go_wp2_with fail
  refine (HN.out _).mono ?_
  rintro x w1 ⟨rfl, hb⟩
  have hu := HU0.out.below hb HU0.out.lt
  have HB1 := Lib.hid (HB0.out.trans (hb.mono HB0.out.size))
  have c0 := hu.c0
  have c1 := hu.c1
  have HU1 := Lib.hid hu
  clear hb hu HB0 HU0
  go_wp2_with fail
  refine (HT.out _).mono ?_
  rintro x w2 ⟨rfl, hb⟩
  have hu := HU1.out.below hb HU1.out.lt
  have HB2 := Lib.hid (HB1.out.trans (hb.mono HB1.out.size))
  have c0 := hu.c0
  have c1 := hu.c1
  have c2 := hu.c2
  have c3 := hu.c3
  have HU2 := Lib.hid hu
  clear hb hu HB1 HU1
  go_wp2
  go_ret
  exact ⟨rfl, HB2.out⟩
theorem byt_any (u : Up) (hu : mayE u = 0) (w : World) :
    Calls Tryd.prog 26 #[uu u] w fun x w' => x = .returned (.string (pxU u)) ∧ Below w.heap.size w w' := by
  have hok := may_ok u hu
  obtain ⟨key, k, n, t⟩ := u
  obtain ⟨k1, k2, hk⟩ := hok
  simp only at k1 k2 hk
  unfold uu
  simp only
  rcases hk with ⟨hk, hn, rfl⟩ | ⟨hk, rfl, ht⟩ | ⟨rfl, rfl, rfl⟩
  · rw [pxU_1 _ _ _ _ hk]
    rcases hk with rfl | rfl
    · exact byt_1 key _ n (by omega) w
    · exact byt_3 key _ n (by omega) w
  · rw [pxU_2 _ _ _ _ hk]
    rcases hk with rfl | rfl
    · exact byt_2 key t _ (by omega) (by omega) w
    · exact byt_4 key t _ (by omega) (by omega) w
  · rw [pxU_5]
    exact byt_5 key _ _ (by omega) w
/-- What Put gives. -/
def putB (u : Up) : ByteArray := if mayE u = 0 then pxU u else ⟨#[]⟩
set_option maxHeartbeats 1000000 in
theorem uput_no (u : Up) (hu : mayE u ≠ 0) (w : World) :
    Calls Tryd.prog 11 #[uu u] w fun x w' => x = .returned (.tuple #[.string ⟨#[]⟩, .int .i64 (mayE u)]) ∧ Below w.heap.size w w' := by
  have HM := Lib.hid (fun w => may_any u w)
  generalize mayE u = e at *
  have k1 : (e == 0) = false := by rw [beq_eq_false_iff_ne]; exact hu
  obtain ⟨key, k, n, t⟩ := u
  simp only [uu] at *
  go_enter Tryd.func11, Tryd.ntmps11
  go_wp2_with fail
  refine (HM.out _).mono ?_
  rintro x w1 ⟨rfl, hb⟩
  have HB := Lib.hid ((Joins.below_alloc1 w _).trans (hb.mono (by simp)))
  clear hb
  go_wp2
  go_ret2
  exact ⟨rfl, HB.out⟩
set_option maxHeartbeats 1000000 in
theorem uput_yes (u : Up) (hu : mayE u = 0) (w : World) (hd : Wd w) :
    Calls Tryd.prog 11 #[uu u] w fun x w' => x = .returned (.tuple #[.string (pxU u), .int .i64 0]) ∧ Below w.heap.size w w' := by
  have HM := Lib.hid (fun w => may_any u w)
  have HW := Lib.hid (fun base b hb w hd h => wrt_any base b ⟨#[]⟩ u hb (by decide) hu w hd h)
  rw [emp_app] at HW
  rw [hu] at HM
  have hp := hd.pos
  generalize pxU u = px at *
  clear hu
  obtain ⟨key, k, n, t⟩ := u
  simp only [uu] at *
  go_enter Tryd.func11, Tryd.ntmps11
  go_wp2_with fail
  refine (HM.out _).mono ?_
  rintro x w1 ⟨rfl, hb⟩
  have hu1 := (Ub.new w (key, k, n, t)).below hb (by simp)
  have hB1 := (Joins.below_alloc1 w (.cells #[.string key, .int .i64 k, .int .i64 n, .string t] 23)).trans (hb.mono (by simp))
  have hd1 := hd.below hB1
  have hsz := hB1.size
  have hu2 := hu1.alloc (.cells #[.slice none 0 0, .bool false] 43)
  have c0 := hu2.c0
  have c1 := hu2.c1
  have c2 := hu2.c2
  have c3 := hu2.c3
  have HD2 := Lib.hid (hd1.alloc (.cells #[.slice none 0 0, .bool false] 43))
  have HB2 := Lib.hid (hB1.alloc hB1.size (.cells #[.slice none 0 0, .bool false] 43))
  clear hb hu1 hu2 hB1 hd1 HM
  go_wp2_with fail
  refine (HW.out _ _ (by omega) _ HD2.out ⟨_, wr_new w1⟩).mono ?_
  rintro x w2 ⟨rfl, ⟨v, hw⟩, hf⟩
  have HB3 := Lib.hid (Fr.below HB2.out hf hsz (by omega))
  have HW3 := Lib.hid hw
  clear hw hf HW HB2 HD2 c0 c1 c2 c3
  go_wp2_with fail
  refine (bytes_live _ _ _ _ _ HW3.out).mono ?_
  rintro x w3 ⟨rfl, rfl⟩
  go_wp2
  go_ret2
  exact ⟨rfl, HB3.out⟩
theorem uput_any (u : Up) (w : World) (hd : Wd w) :
    Calls Tryd.prog 11 #[uu u] w fun x w' => x = .returned (.tuple #[.string (putB u), .int .i64 (mayE u)]) ∧ Below w.heap.size w w' := by
  unfold putB
  by_cases hu : mayE u = 0
  · rw [if_pos hu, hu]; exact uput_yes u hu w hd
  · rw [if_neg hu]; exact uput_no u hu w
set_option maxHeartbeats 1000000 in
theorem rput_u_no (u : Up) (hu : mayE u ≠ 0) (w : World) :
    Calls Tryd.prog 12 #[uu u] w fun x w' => x = .returned (.tuple #[.string ⟨#[]⟩, .int .i64 (mayE u)]) ∧ Below w.heap.size w w' := by
  have HM := Lib.hid (fun w => rmay_any u w)
  generalize mayE u = e at *
  have k1 : (e == 0) = false := by rw [beq_eq_false_iff_ne]; exact hu
  obtain ⟨key, k, n, t⟩ := u
  simp only [uu] at *
  go_enter Tryd.func12, Tryd.ntmps12
  go_wp2_with fail
  refine (HM.out _).mono ?_
  rintro x w1 ⟨rfl, hb⟩
  have HB := Lib.hid ((Joins.below_alloc1 w _).trans (hb.mono (by simp)))
  clear hb
  go_wp2
  go_ret2
  exact ⟨rfl, HB.out⟩
set_option maxHeartbeats 1000000 in
theorem rput_u_yes (u : Up) (hu : mayE u = 0) (w : World) :
    Calls Tryd.prog 12 #[uu u] w fun x w' => x = .returned (.tuple #[.string (pxU u), .int .i64 0]) ∧ Below w.heap.size w w' := by
  have HM := Lib.hid (fun w => rmay_any u w)
  have HB' := Lib.hid (fun w => byt_any u hu w)
  rw [hu] at HM
  generalize pxU u = px at *
  clear hu
  obtain ⟨key, k, n, t⟩ := u
  simp only [uu] at *
  go_enter Tryd.func12, Tryd.ntmps12
  go_wp2_with fail
  refine (HM.out _).mono ?_
  rintro x w1 ⟨rfl, hb⟩
  have hu1 := (Ub.new w (key, k, n, t)).below hb (by simp)
  have hB1 := (Joins.below_alloc1 w (.cells #[.string key, .int .i64 k, .int .i64 n, .string t] 23)).trans (hb.mono (by simp))
  have c0 := hu1.c0
  have c1 := hu1.c1
  have c2 := hu1.c2
  have c3 := hu1.c3
  have HB1 := Lib.hid hB1
  clear hb hu1 hB1 HM
  go_wp2_with fail
  refine (HB'.out _).mono ?_
  rintro x w2 ⟨rfl, hb⟩
  have HB2 := Lib.hid (HB1.out.trans (hb.mono HB1.out.size))
  clear hb HB1 HB'
  go_wp2
  go_ret2
  exact ⟨rfl, HB2.out⟩
theorem rput_u (u : Up) (w : World) :
    Calls Tryd.prog 12 #[uu u] w fun x w' => x = .returned (.tuple #[.string (putB u), .int .i64 (mayE u)]) ∧ Below w.heap.size w w' := by
  unfold putB
  by_cases hu : mayE u = 0
  · rw [if_pos hu, hu]; exact rput_u_yes u hu w
  · rw [if_neg hu]; exact rput_u_no u hu w
end Go.Proofs.YtpdpmdbdnpemnaaDoor
