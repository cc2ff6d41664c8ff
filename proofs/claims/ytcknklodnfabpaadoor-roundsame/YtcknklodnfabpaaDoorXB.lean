/- The document's Bytes of an update. -/
import Derived.Test.YtcknklodnfabpaaDoorUW
import Derived.Test.YtcknklodnfabpaaDoorU5
namespace Go.Proofs.YtcknklodnfabpaaDoor
open Go Go.RowKit
set_option maxHeartbeats 1000000 in
theorem byt_1 (key t : ByteArray) (n : Int) (hkey : key.size ≤ 1000) (w : World) :
    Calls Tryd.prog 31 #[.agg #[.string key, .int .i64 1, .int .i64 n, .string t]] w fun x w' => x = .returned (.string (pxN 1 ++ pxT key ++ pxS n)) ∧ Below w.heap.size w w' := by
  have z1 := pxN_size 1
  have z2 := pxT_size key (by omega)
  have HN := Lib.hid (fun w => rfN_any 1 (by decide) w)
  have HT := Lib.hid (fun w => rfT_any key (by omega) w)
  have z3 := pxS_size n
  have HX := Lib.hid (fun w => rfS_any n w)
  rw [decide_eq_true (show okN 1 by decide)] at HN
  generalize pxN 1 = p1 at *
  generalize pxT key = p2 at *
  generalize pxS n = p3 at *
  generalize decide (okS n) = ok at *
  have y1 : ¬ 9223372036854775807 < p1.size + p2.size := by omega
  have y2 : ¬ 9223372036854775807 < (p1 ++ p2).size + p3.size := by rw [ByteArray.size_append]; omega
  have hu0 := Ub.new w (key, 1, n, t)
  have c1 := hu0.c1
  have c0 := hu0.c0
  have HU0 := Lib.hid hu0
  have HB0 := Lib.hid (Joins.below_alloc1 w (.cells #[.string key, .int .i64 1, .int .i64 n, .string t] 45))
  clear hu0
  go_enter Tryd.func31, Tryd.ntmps31
  go_wp2_with fail
  refine (HN.out _).mono ?_
  rintro x w1 ⟨rfl, hb⟩
  have hu := HU0.out.below hb HU0.out.lt
  have HB1 := Lib.hid (HB0.out.trans (hb.mono HB0.out.size))
  have c0 := hu.c0
  have c1 := hu.c1
  have HU1 := Lib.hid hu
  clear hb hu HB0 HU0
  go_wp2_with fail
  refine (HT.out _).mono ?_
  rintro x w2 ⟨rfl, hb⟩
  have hu := HU1.out.below hb HU1.out.lt
  have HB2 := Lib.hid (HB1.out.trans (hb.mono HB1.out.size))
  have c0 := hu.c0
  have c1 := hu.c1
  have c2 := hu.c2
  have c3 := hu.c3
  have HU2 := Lib.hid hu
  clear hb hu HB1 HU1
  go_wp2_with fail
  refine (HX.out _).mono ?_
  rintro x w3 ⟨rfl, hb⟩
  have hu := HU2.out.below hb HU2.out.lt
  have HB3 := Lib.hid (HB2.out.trans (hb.mono HB2.out.size))
  have c1 := hu.c1
  clear hb hu HB2 HU2
  go_wp2
  go_ret
  exact ⟨rfl, HB3.out⟩
set_option maxHeartbeats 1000000 in
theorem byt_2 (key t : ByteArray) (n : Int) (hkey : key.size ≤ 1000) (hs : t.size ≤ 1000) (w : World) :
    Calls Tryd.prog 31 #[.agg #[.string key, .int .i64 2, .int .i64 n, .string t]] w fun x w' => x = .returned (.string (pxN 2 ++ pxT key ++ pxT t)) ∧ Below w.heap.size w w' := by
  have z1 := pxN_size 2
  have z2 := pxT_size key (by omega)
  have HN := Lib.hid (fun w => rfN_any 2 (by decide) w)
  have HT := Lib.hid (fun w => rfT_any key (by omega) w)
  have z3 := pxT_size t (by omega)
  have HX := Lib.hid (fun w => rfT_any t (by omega) w)
  rw [decide_eq_true (show okN 2 by decide)] at HN
  generalize pxN 2 = p1 at *
  generalize pxT key = p2 at *
  generalize pxT t = p3 at *
  have y1 : ¬ 9223372036854775807 < p1.size + p2.size := by omega
  have y2 : ¬ 9223372036854775807 < (p1 ++ p2).size + p3.size := by rw [ByteArray.size_append]; omega
  have hu0 := Ub.new w (key, 2, n, t)
  have c1 := hu0.c1
  have c0 := hu0.c0
  have HU0 := Lib.hid hu0
  have HB0 := Lib.hid (Joins.below_alloc1 w (.cells #[.string key, .int .i64 2, .int .i64 n, .string t] 45))
  clear hu0
  go_enter Tryd.func31, Tryd.ntmps31
  go_wp2_with fail
  refine (HN.out _).mono ?_
  rintro x w1 ⟨rfl, hb⟩
  have hu := HU0.out.below hb HU0.out.lt
  have HB1 := Lib.hid (HB0.out.trans (hb.mono HB0.out.size))
  have c0 := hu.c0
  have c1 := hu.c1
  have HU1 := Lib.hid hu
  clear hb hu HB0 HU0
  go_wp2_with fail
  refine (HT.out _).mono ?_
  rintro x w2 ⟨rfl, hb⟩
  have hu := HU1.out.below hb HU1.out.lt
  have HB2 := Lib.hid (HB1.out.trans (hb.mono HB1.out.size))
  have c0 := hu.c0
  have c1 := hu.c1
  have c2 := hu.c2
  have c3 := hu.c3
  have HU2 := Lib.hid hu
  clear hb hu HB1 HU1
  go_wp2_with fail
  refine (HX.out _).mono ?_
  rintro x w3 ⟨rfl, hb⟩
  have hu := HU2.out.below hb HU2.out.lt
  have HB3 := Lib.hid (HB2.out.trans (hb.mono HB2.out.size))
  have c1 := hu.c1
  clear hb hu HB2 HU2
  go_wp2
  go_ret
  exact ⟨rfl, HB3.out⟩
set_option maxHeartbeats 1000000 in
theorem byt_3 (key t : ByteArray) (n : Int) (hkey : key.size ≤ 1000) (w : World) :
    Calls Tryd.prog 31 #[.agg #[.string key, .int .i64 3, .int .i64 n, .string t]] w fun x w' => x = .returned (.string (pxN 3 ++ pxT key ++ pxS n)) ∧ Below w.heap.size w w' := by
  have z1 := pxN_size 3
  have z2 := pxT_size key (by omega)
  have HN := Lib.hid (fun w => rfN_any 3 (by decide) w)
  have HT := Lib.hid (fun w => rfT_any key (by omega) w)
  have z3 := pxS_size n
  have HX := Lib.hid (fun w => rfS_any n w)
  rw [decide_eq_true (show okN 3 by decide)] at HN
  generalize pxN 3 = p1 at *
  generalize pxT key = p2 at *
  generalize pxS n = p3 at *
  generalize decide (okS n) = ok at *
  have y1 : ¬ 9223372036854775807 < p1.size + p2.size := by omega
  have y2 : ¬ 9223372036854775807 < (p1 ++ p2).size + p3.size := by rw [ByteArray.size_append]; omega
  have hu0 := Ub.new w (key, 3, n, t)
  have c1 := hu0.c1
  have c0 := hu0.c0
  have HU0 := Lib.hid hu0
  have HB0 := Lib.hid (Joins.below_alloc1 w (.cells #[.string key, .int .i64 3, .int .i64 n, .string t] 45))
  clear hu0
  go_enter Tryd.func31, Tryd.ntmps31
  go_wp2_with fail
  refine (HN.out _).mono ?_
  rintro x w1 ⟨rfl, hb⟩
  have hu := HU0.out.below hb HU0.out.lt
  have HB1 := Lib.hid (HB0.out.trans (hb.mono HB0.out.size))
  have c0 := hu.c0
  have c1 := hu.c1
  have HU1 := Lib.hid hu
  clear hb hu HB0 HU0
  go_wp2_with fail
  refine (HT.out _).mono ?_
  rintro x w2 ⟨rfl, hb⟩
  have hu := HU1.out.below hb HU1.out.lt
  have HB2 := Lib.hid (HB1.out.trans (hb.mono HB1.out.size))
  have c0 := hu.c0
  have c1 := hu.c1
  have c2 := hu.c2
  have c3 := hu.c3
  have HU2 := Lib.hid hu
  clear hb hu HB1 HU1
  go_wp2_with fail
  refine (HX.out _).mono ?_
  rintro x w3 ⟨rfl, hb⟩
  have hu := HU2.out.below hb HU2.out.lt
  have HB3 := Lib.hid (HB2.out.trans (hb.mono HB2.out.size))
  have c1 := hu.c1
  clear hb hu HB2 HU2
  go_wp2
  go_ret
  exact ⟨rfl, HB3.out⟩
set_option maxHeartbeats 1000000 in
theorem byt_4 (key t : ByteArray) (n : Int) (hkey : key.size ≤ 1000) (hs : t.size ≤ 1000) (w : World) :
    Calls Tryd.prog 31 #[.agg #[.string key, .int .i64 4, .int .i64 n, .string t]] w fun x w' => x = .returned (.string (pxN 4 ++ pxT key ++ pxT t)) ∧ Below w.heap.size w w' := by
  have z1 := pxN_size 4
  have z2 := pxT_size key (by omega)
  have HN := Lib.hid (fun w => rfN_any 4 (by decide) w)
  have HT := Lib.hid (fun w => rfT_any key (by omega) w)
  have z3 := pxT_size t (by omega)
  have HX := Lib.hid (fun w => rfT_any t (by omega) w)
  rw [decide_eq_true (show okN 4 by decide)] at HN
  generalize pxN 4 = p1 at *
  generalize pxT key = p2 at *
  generalize pxT t = p3 at *
  have y1 : ¬ 9223372036854775807 < p1.size + p2.size := by omega
  have y2 : ¬ 9223372036854775807 < (p1 ++ p2).size + p3.size := by rw [ByteArray.size_append]; omega
  have hu0 := Ub.new w (key, 4, n, t)
  have c1 := hu0.c1
  have c0 := hu0.c0
  have HU0 := Lib.hid hu0
  have HB0 := Lib.hid (Joins.below_alloc1 w (.cells #[.string key, .int .i64 4, .int .i64 n, .string t] 45))
  clear hu0
  go_enter Tryd.func31, Tryd.ntmps31
  go_wp2_with fail
  refine (HN.out _).mono ?_
  rintro x w1 ⟨rfl, hb⟩
  have hu := HU0.out.below hb HU0.out.lt
  have HB1 := Lib.hid (HB0.out.trans (hb.mono HB0.out.size))
  have c0 := hu.c0
  have c1 := hu.c1
  have HU1 := Lib.hid hu
  clear hb hu HB0 HU0
  go_wp2_with fail
  refine (HT.out _).mono ?_
  rintro x w2 ⟨rfl, hb⟩
  have hu := HU1.out.below hb HU1.out.lt
  have HB2 := Lib.hid (HB1.out.trans (hb.mono HB1.out.size))
  have c0 := hu.c0
  have c1 := hu.c1
  have c2 := hu.c2
  have c3 := hu.c3
  have HU2 := Lib.hid hu
  clear hb hu HB1 HU1
  go_wp2_with fail
  refine (HX.out _).mono ?_
  rintro x w3 ⟨rfl, hb⟩
  have hu := HU2.out.below hb HU2.out.lt
  have HB3 := Lib.hid (HB2.out.trans (hb.mono HB2.out.size))
  have c1 := hu.c1
  clear hb hu HB2 HU2
  go_wp2
  go_ret
  exact ⟨rfl, HB3.out⟩
set_option maxHeartbeats 1000000 in
theorem byt_5 (key t : ByteArray) (n : Int) (hkey : key.size ≤ 1000) (w : World) :
    Calls Tryd.prog 31 #[.agg #[.string key, .int .i64 5, .int .i64 n, .string t]] w fun x w' => x = .returned (.string (pxN 5 ++ pxT key)) ∧ Below w.heap.size w w' := by
  have z1 := pxN_size 5
  have z2 := pxT_size key (by omega)
  have HN := Lib.hid (fun w => rfN_any 5 (by decide) w)
  have HT := Lib.hid (fun w => rfT_any key (by omega) w)
  rw [decide_eq_true (show okN 5 by decide)] at HN
  generalize pxN 5 = p1 at *
  generalize pxT key = p2 at *
  have y1 : ¬ 9223372036854775807 < p1.size + p2.size := by omega
  have hu0 := Ub.new w (key, 5, n, t)
  have c1 := hu0.c1
  have c0 := hu0.c0
  have HU0 := Lib.hid hu0
  have HB0 := Lib.hid (Joins.below_alloc1 w (.cells #[.string key, .int .i64 5, .int .i64 n, .string t] 45))
  clear hu0
  go_enter Tryd.func31, Tryd.ntmps31
  go_wp2_with fail
  refine (HN.out _).mono ?_
  rintro x w1 ⟨rfl, hb⟩
  have hu := HU0.out.below hb HU0.out.lt
  have HB1 := Lib.hid (HB0.out.trans (hb.mono HB0.out.size))
  have c0 := hu.c0
  have c1 := hu.c1
  have HU1 := Lib.hid hu
  clear hb hu HB0 HU0
  go_wp2_with fail
  refine (HT.out _).mono ?_
  rintro x w2 ⟨rfl, hb⟩
  have hu := HU1.out.below hb HU1.out.lt
  have HB2 := Lib.hid (HB1.out.trans (hb.mono HB1.out.size))
  have c0 := hu.c0
  have c1 := hu.c1
  have c2 := hu.c2
  have c3 := hu.c3
  have HU2 := Lib.hid hu
  clear hb hu HB1 HU1
  go_wp2
  go_ret
  exact ⟨rfl, HB2.out⟩
theorem byt_any (u : Up) (hu : mayE u = 0) (w : World) :
    Calls Tryd.prog 31 #[uu u] w fun x w' => x = .returned (.string (pxU u)) ∧ Below w.heap.size w w' := by
  have hok := may_ok u hu
  obtain ⟨key, k, n, t⟩ := u
  obtain ⟨k1, k2, hk⟩ := hok
  simp only at k1 k2 hk
  unfold uu
  simp only
  rcases hk with ⟨hk, hn, rfl⟩ | ⟨hk, rfl, ht⟩ | ⟨rfl, rfl, rfl⟩
  · rw [pxU_1 _ _ _ _ hk]
    rcases hk with rfl | rfl
    · exact byt_1 key _ n (by omega) w
    · exact byt_3 key _ n (by omega) w
  · rw [pxU_2 _ _ _ _ hk]
    rcases hk with rfl | rfl
    · exact byt_2 key t _ (by omega) (by omega) w
    · exact byt_4 key t _ (by omega) (by omega) w
  · rw [pxU_5]
    exact byt_5 key _ _ (by omega) w
end Go.Proofs.YtcknklodnfabpaaDoor
