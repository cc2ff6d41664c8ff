/- Read, way by way. -/
import Derived.Test.YtcknklodnfabpaaDoorUR
namespace Go.Proofs.YtcknklodnfabpaaDoor
open Go Go.RowKit
/-- How it stands within Read. -/
structure RS (w W : World) (b : Nat) (R : ByteArray) (E : Int) (u : Up) : Prop where
  hb : 0 < b
  lt : b < w.heap.size
  rd : Rd W b R E
  d : Wd W
  out : Ub W w.heap.size up0
  upd : Ub W (w.heap.size + 1) u
  g : w.grownBy W (some b)
theorem RS.start {w : World} {b : Nat} {R : ByteArray} {E : Int} (hb : 0 < b) (hd : Wd w) (h : Rd w b R E) : RS w ((w.alloc (.cells #[.string ⟨#[]⟩, .int .i64 0, .int .i64 0, .string ⟨#[]⟩] 45)).alloc (.cells #[.string ⟨#[]⟩, .int .i64 0, .int .i64 0, .string ⟨#[]⟩] 45)) b R E up0 :=
  ⟨hb, h.lt, (h.alloc _).alloc _, (hd.alloc _).alloc _, (two_new w).1, (two_new w).2, grown_trans (grown_alloc w _ _) (grown_alloc _ _ _)⟩
theorem RS.call {w W W' : World} {b : Nat} {R R' : ByteArray} {E E' : Int} {u : Up} (h : RS w W b R E u) (hr : Rd W' b R' E') (hg : W.grownBy W' (some b)) : RS w W' b R' E' u :=
  have hlt := h.lt
  ⟨h.hb, h.lt, hr, h.d.grown hg (pos0 h.hb), h.out.kept hg (by simp; omega), h.upd.kept hg (by simp; omega), grown_trans h.g hg⟩
theorem RS.store0 {w W : World} {b : Nat} {R : ByteArray} {E : Int} {u : Up} (h : RS w W b R E u) (x : ByteArray) : RS w (W.setCell ⟨w.heap.size + 1, 0, none⟩ (.string x)) b R E (x, u.2) :=
  have hlt := h.lt
  have hp := h.hb
  ⟨h.hb, h.lt, h.rd.setnew (by omega) _ _, h.d.setnew (by omega) _ _, h.out.setnew (by omega) _ _, h.upd.set0 x, grown_setnew h.g (by omega) _⟩
theorem RS.store1 {w W : World} {b : Nat} {R : ByteArray} {E : Int} {u : Up} (h : RS w W b R E u) (x : Int) : RS w (W.setCell ⟨w.heap.size + 1, 1, none⟩ (.int .i64 x)) b R E (u.1, x, u.2.2) :=
  have hlt := h.lt
  have hp := h.hb
  ⟨h.hb, h.lt, h.rd.setnew (by omega) _ _, h.d.setnew (by omega) _ _, h.out.setnew (by omega) _ _, h.upd.set1 x, grown_setnew h.g (by omega) _⟩
theorem RS.store2 {w W : World} {b : Nat} {R : ByteArray} {E : Int} {u : Up} (h : RS w W b R E u) (x : Int) : RS w (W.setCell ⟨w.heap.size + 1, 2, none⟩ (.int .i64 x)) b R E (u.1, u.2.1, x, u.2.2.2) :=
  have hlt := h.lt
  have hp := h.hb
  ⟨h.hb, h.lt, h.rd.setnew (by omega) _ _, h.d.setnew (by omega) _ _, h.out.setnew (by omega) _ _, h.upd.set2 x, grown_setnew h.g (by omega) _⟩
theorem RS.store3 {w W : World} {b : Nat} {R : ByteArray} {E : Int} {u : Up} (h : RS w W b R E u) (x : ByteArray) : RS w (W.setCell ⟨w.heap.size + 1, 3, none⟩ (.string x)) b R E (u.1, u.2.1, u.2.2.1, x) :=
  have hlt := h.lt
  have hp := h.hb
  ⟨h.hb, h.lt, h.rd.setnew (by omega) _ _, h.d.setnew (by omega) _ _, h.out.setnew (by omega) _ _, h.upd.set3 x, grown_setnew h.g (by omega) _⟩
set_option maxHeartbeats 1000000 in
theorem crd_0z (b : Nat) (R0 R1 R2 y : ByteArray) (E0 E1 E3 : Int) (hE : E3 ≠ 0) (hb : 0 < b) (w : World) (hd : Wd w) (h : Rd w b R0 E0)
    (HK : Hid (∀ w, Wd w → Rd w b R0 E0 → Calls Tryd.prog 66 #[.pointer (some ⟨b, 0, none⟩)] w fun x w' => x = .returned (.int .i64 0) ∧ Rd w' b R1 E1 ∧ w.grownBy w' (some b)))
    (HY : Hid (∀ w, Wd w → Rd w b R1 E1 → Calls Tryd.prog 67 #[.pointer (some ⟨b, 0, none⟩)] w fun x w' => x = .returned (.string y) ∧ Rd w' b R2 E3 ∧ w.grownBy w' (some b))) :
    Calls Tryd.prog 53 #[.pointer (some ⟨b, 0, none⟩)] w fun x w' => x = .returned (.agg #[.string ⟨#[]⟩, .int .i64 0, .int .i64 0, .string ⟨#[]⟩]) ∧ Rd w' b R2 E3 ∧ w.grownBy w' (some b) := by
  have HS0 := Lib.hid (RS.start hb hd h)
  have hlt := h.lt
  clear hd h
  have k1 : (E3 == 0) = false := by rw [beq_eq_false_iff_ne]; exact hE
  go_enter Tryd.func53, Tryd.ntmps53
  go_wp2_with fail
  refine (HK.out _ HS0.out.d HS0.out.rd).mono ?_
  rintro x w1 ⟨rfl, hr, hgr⟩
  have hs := HS0.out.call hr hgr
  clear hr hgr HK
  have c := hs.upd.c1
  have f := hs.upd.f0 1
  have HS1 := Lib.hid (hs.store1 0)
  clear hs HS0
  go_wp2_with fail
  refine (HY.out _ HS1.out.d HS1.out.rd).mono ?_
  rintro x w2 ⟨rfl, hr, hgr⟩
  have hs := HS1.out.call hr hgr
  clear hr hgr HY
  have c1 := (hs.store0 y).upd.c1
  have c := hs.upd.c0
  have f := hs.upd.f0 0
  have HS2 := Lib.hid (hs.store0 y)
  clear hs HS1
  have d0 := HS2.out.upd.c0
  have d1 := HS2.out.upd.c1
  have d2 := HS2.out.upd.c2
  have d3 := HS2.out.upd.c3
  have o0 := HS2.out.out.c0
  have o1 := HS2.out.out.c1
  have o2 := HS2.out.out.c2
  have o3 := HS2.out.out.c3
  have g0 := HS2.out.out.f0 0
  have g1 := HS2.out.out.f0 1
  have g2 := HS2.out.out.f0 2
  have g3 := HS2.out.out.f0 3
  simp only [up0] at d0 d1 d2 d3 o0 o1 o2 o3
  go_wp2_with fail
  refine (err_any b _ _ _ HS2.out.rd).mono ?_
  rintro x w9 ⟨rfl, rfl⟩
  go_wp2
  refine bodyPost_ret (v := .agg #[.string ⟨#[]⟩, .int .i64 0, .int .i64 0, .string ⟨#[]⟩]) (by simp [results, Tryd.results53, go_sem, o0, o1, o2, o3]) rfl ⟨rfl, HS2.out.rd.set4 (by omega) _ _ _ _, grown_set4 HS2.out.g (Nat.le_refl _) _ _ _ _⟩
set_option maxHeartbeats 1000000 in
theorem crd_5z (b : Nat) (R0 R1 R2 y : ByteArray) (E0 E1 E3 : Int) (hE : E3 ≠ 0) (hb : 0 < b) (w : World) (hd : Wd w) (h : Rd w b R0 E0)
    (HK : Hid (∀ w, Wd w → Rd w b R0 E0 → Calls Tryd.prog 66 #[.pointer (some ⟨b, 0, none⟩)] w fun x w' => x = .returned (.int .i64 5) ∧ Rd w' b R1 E1 ∧ w.grownBy w' (some b)))
    (HY : Hid (∀ w, Wd w → Rd w b R1 E1 → Calls Tryd.prog 67 #[.pointer (some ⟨b, 0, none⟩)] w fun x w' => x = .returned (.string y) ∧ Rd w' b R2 E3 ∧ w.grownBy w' (some b))) :
    Calls Tryd.prog 53 #[.pointer (some ⟨b, 0, none⟩)] w fun x w' => x = .returned (.agg #[.string ⟨#[]⟩, .int .i64 0, .int .i64 0, .string ⟨#[]⟩]) ∧ Rd w' b R2 E3 ∧ w.grownBy w' (some b) := by
  have HS0 := Lib.hid (RS.start hb hd h)
  have hlt := h.lt
  clear hd h
  have k1 : (E3 == 0) = false := by rw [beq_eq_false_iff_ne]; exact hE
  go_enter Tryd.func53, Tryd.ntmps53
  go_wp2_with fail
  refine (HK.out _ HS0.out.d HS0.out.rd).mono ?_
  rintro x w1 ⟨rfl, hr, hgr⟩
  have hs := HS0.out.call hr hgr
  clear hr hgr HK
  have c := hs.upd.c1
  have f := hs.upd.f0 1
  have HS1 := Lib.hid (hs.store1 5)
  clear hs HS0
  go_wp2_with fail
  refine (HY.out _ HS1.out.d HS1.out.rd).mono ?_
  rintro x w2 ⟨rfl, hr, hgr⟩
  have hs := HS1.out.call hr hgr
  clear hr hgr HY
  have c1 := (hs.store0 y).upd.c1
  have c := hs.upd.c0
  have f := hs.upd.f0 0
  have HS2 := Lib.hid (hs.store0 y)
  clear hs HS1
  have d0 := HS2.out.upd.c0
  have d1 := HS2.out.upd.c1
  have d2 := HS2.out.upd.c2
  have d3 := HS2.out.upd.c3
  have o0 := HS2.out.out.c0
  have o1 := HS2.out.out.c1
  have o2 := HS2.out.out.c2
  have o3 := HS2.out.out.c3
  have g0 := HS2.out.out.f0 0
  have g1 := HS2.out.out.f0 1
  have g2 := HS2.out.out.f0 2
  have g3 := HS2.out.out.f0 3
  simp only [up0] at d0 d1 d2 d3 o0 o1 o2 o3
  go_wp2_with fail
  refine (err_any b _ _ _ HS2.out.rd).mono ?_
  rintro x w9 ⟨rfl, rfl⟩
  go_wp2
  refine bodyPost_ret (v := .agg #[.string ⟨#[]⟩, .int .i64 0, .int .i64 0, .string ⟨#[]⟩]) (by simp [results, Tryd.results53, go_sem, o0, o1, o2, o3]) rfl ⟨rfl, HS2.out.rd.set4 (by omega) _ _ _ _, grown_set4 HS2.out.g (Nat.le_refl _) _ _ _ _⟩
set_option maxHeartbeats 1000000 in
theorem crd_5 (b : Nat) (R0 R1 R2 y : ByteArray) (E0 E1 : Int) (hb : 0 < b) (w : World) (hd : Wd w) (h : Rd w b R0 E0)
    (HK : Hid (∀ w, Wd w → Rd w b R0 E0 → Calls Tryd.prog 66 #[.pointer (some ⟨b, 0, none⟩)] w fun x w' => x = .returned (.int .i64 5) ∧ Rd w' b R1 E1 ∧ w.grownBy w' (some b)))
    (HY : Hid (∀ w, Wd w → Rd w b R1 E1 → Calls Tryd.prog 67 #[.pointer (some ⟨b, 0, none⟩)] w fun x w' => x = .returned (.string y) ∧ Rd w' b R2 0 ∧ w.grownBy w' (some b))) :
    Calls Tryd.prog 53 #[.pointer (some ⟨b, 0, none⟩)] w fun x w' => x = .returned (.agg #[.string y, .int .i64 5, .int .i64 0, .string ⟨#[]⟩]) ∧ Rd w' b R2 0 ∧ w.grownBy w' (some b) := by
  have HS0 := Lib.hid (RS.start hb hd h)
  have hlt := h.lt
  clear hd h
  go_enter Tryd.func53, Tryd.ntmps53
  go_wp2_with fail
  refine (HK.out _ HS0.out.d HS0.out.rd).mono ?_
  rintro x w1 ⟨rfl, hr, hgr⟩
  have hs := HS0.out.call hr hgr
  clear hr hgr HK
  have c := hs.upd.c1
  have f := hs.upd.f0 1
  have HS1 := Lib.hid (hs.store1 5)
  clear hs HS0
  go_wp2_with fail
  refine (HY.out _ HS1.out.d HS1.out.rd).mono ?_
  rintro x w2 ⟨rfl, hr, hgr⟩
  have hs := HS1.out.call hr hgr
  clear hr hgr HY
  have c1 := (hs.store0 y).upd.c1
  have c := hs.upd.c0
  have f := hs.upd.f0 0
  have HS2 := Lib.hid (hs.store0 y)
  clear hs HS1
  have d0 := HS2.out.upd.c0
  have d1 := HS2.out.upd.c1
  have d2 := HS2.out.upd.c2
  have d3 := HS2.out.upd.c3
  have o0 := HS2.out.out.c0
  have o1 := HS2.out.out.c1
  have o2 := HS2.out.out.c2
  have o3 := HS2.out.out.c3
  have g0 := HS2.out.out.f0 0
  have g1 := HS2.out.out.f0 1
  have g2 := HS2.out.out.f0 2
  have g3 := HS2.out.out.f0 3
  simp only [up0] at d0 d1 d2 d3 o0 o1 o2 o3
  go_wp2_with fail
  refine (err_any b _ _ _ HS2.out.rd).mono ?_
  rintro x w9 ⟨rfl, rfl⟩
  go_wp2
  refine bodyPost_ret (v := .agg #[.string y, .int .i64 5, .int .i64 0, .string ⟨#[]⟩]) (by simp [results, Tryd.results53, go_sem, o0, o1, o2, o3]) rfl ⟨rfl, HS2.out.rd.set4 (by omega) _ _ _ _, grown_set4 HS2.out.g (Nat.le_refl _) _ _ _ _⟩
set_option maxHeartbeats 1000000 in
theorem crd_1z (b : Nat) (R0 R1 R2 R3 y : ByteArray) (n : Int) (E0 E1 E2 E3 : Int) (hE : E3 ≠ 0) (hb : 0 < b) (w : World) (hd : Wd w) (h : Rd w b R0 E0)
    (HK : Hid (∀ w, Wd w → Rd w b R0 E0 → Calls Tryd.prog 66 #[.pointer (some ⟨b, 0, none⟩)] w fun x w' => x = .returned (.int .i64 1) ∧ Rd w' b R1 E1 ∧ w.grownBy w' (some b)))
    (HY : Hid (∀ w, Wd w → Rd w b R1 E1 → Calls Tryd.prog 67 #[.pointer (some ⟨b, 0, none⟩)] w fun x w' => x = .returned (.string y) ∧ Rd w' b R2 E2 ∧ w.grownBy w' (some b)))
    (HS : Hid (∀ w, Wd w → Rd w b R2 E2 → Calls Tryd.prog 68 #[.pointer (some ⟨b, 0, none⟩)] w fun x w' => x = .returned (.int .i64 n) ∧ Rd w' b R3 E3 ∧ w.grownBy w' (some b))) :
    Calls Tryd.prog 53 #[.pointer (some ⟨b, 0, none⟩)] w fun x w' => x = .returned (.agg #[.string ⟨#[]⟩, .int .i64 0, .int .i64 0, .string ⟨#[]⟩]) ∧ Rd w' b R3 E3 ∧ w.grownBy w' (some b) := by
  have HS0 := Lib.hid (RS.start hb hd h)
  have hlt := h.lt
  clear hd h
  have k1 : (E3 == 0) = false := by rw [beq_eq_false_iff_ne]; exact hE
  go_enter Tryd.func53, Tryd.ntmps53
  go_wp2_with fail
  refine (HK.out _ HS0.out.d HS0.out.rd).mono ?_
  rintro x w1 ⟨rfl, hr, hgr⟩
  have hs := HS0.out.call hr hgr
  clear hr hgr HK
  have c := hs.upd.c1
  have f := hs.upd.f0 1
  have HS1 := Lib.hid (hs.store1 1)
  clear hs HS0
  go_wp2_with fail
  refine (HY.out _ HS1.out.d HS1.out.rd).mono ?_
  rintro x w2 ⟨rfl, hr, hgr⟩
  have hs := HS1.out.call hr hgr
  clear hr hgr HY
  have c1 := (hs.store0 y).upd.c1
  have c := hs.upd.c0
  have f := hs.upd.f0 0
  have HS2 := Lib.hid (hs.store0 y)
  clear hs HS1
  go_wp2_with fail
  refine (HS.out _ HS2.out.d HS2.out.rd).mono ?_
  rintro x w3 ⟨rfl, hr, hgr⟩
  have hs := HS2.out.call hr hgr
  clear hr hgr HS
  have c := hs.upd.c2
  have f := hs.upd.f0 2
  have HS3 := Lib.hid (hs.store2 n)
  clear hs HS2
  have d0 := HS3.out.upd.c0
  have d1 := HS3.out.upd.c1
  have d2 := HS3.out.upd.c2
  have d3 := HS3.out.upd.c3
  have o0 := HS3.out.out.c0
  have o1 := HS3.out.out.c1
  have o2 := HS3.out.out.c2
  have o3 := HS3.out.out.c3
  have g0 := HS3.out.out.f0 0
  have g1 := HS3.out.out.f0 1
  have g2 := HS3.out.out.f0 2
  have g3 := HS3.out.out.f0 3
  simp only [up0] at d0 d1 d2 d3 o0 o1 o2 o3
  go_wp2_with fail
  refine (err_any b _ _ _ HS3.out.rd).mono ?_
  rintro x w9 ⟨rfl, rfl⟩
  go_wp2
  refine bodyPost_ret (v := .agg #[.string ⟨#[]⟩, .int .i64 0, .int .i64 0, .string ⟨#[]⟩]) (by simp [results, Tryd.results53, go_sem, o0, o1, o2, o3]) rfl ⟨rfl, HS3.out.rd.set4 (by omega) _ _ _ _, grown_set4 HS3.out.g (Nat.le_refl _) _ _ _ _⟩
set_option maxHeartbeats 1000000 in
theorem crd_1 (b : Nat) (R0 R1 R2 R3 y : ByteArray) (n : Int) (E0 E1 E2 : Int) (hb : 0 < b) (w : World) (hd : Wd w) (h : Rd w b R0 E0)
    (HK : Hid (∀ w, Wd w → Rd w b R0 E0 → Calls Tryd.prog 66 #[.pointer (some ⟨b, 0, none⟩)] w fun x w' => x = .returned (.int .i64 1) ∧ Rd w' b R1 E1 ∧ w.grownBy w' (some b)))
    (HY : Hid (∀ w, Wd w → Rd w b R1 E1 → Calls Tryd.prog 67 #[.pointer (some ⟨b, 0, none⟩)] w fun x w' => x = .returned (.string y) ∧ Rd w' b R2 E2 ∧ w.grownBy w' (some b)))
    (HS : Hid (∀ w, Wd w → Rd w b R2 E2 → Calls Tryd.prog 68 #[.pointer (some ⟨b, 0, none⟩)] w fun x w' => x = .returned (.int .i64 n) ∧ Rd w' b R3 0 ∧ w.grownBy w' (some b))) :
    Calls Tryd.prog 53 #[.pointer (some ⟨b, 0, none⟩)] w fun x w' => x = .returned (.agg #[.string y, .int .i64 1, .int .i64 n, .string ⟨#[]⟩]) ∧ Rd w' b R3 0 ∧ w.grownBy w' (some b) := by
  have HS0 := Lib.hid (RS.start hb hd h)
  have hlt := h.lt
  clear hd h
  go_enter Tryd.func53, Tryd.ntmps53
  go_wp2_with fail
  refine (HK.out _ HS0.out.d HS0.out.rd).mono ?_
  rintro x w1 ⟨rfl, hr, hgr⟩
  have hs := HS0.out.call hr hgr
  clear hr hgr HK
  have c := hs.upd.c1
  have f := hs.upd.f0 1
  have HS1 := Lib.hid (hs.store1 1)
  clear hs HS0
  go_wp2_with fail
  refine (HY.out _ HS1.out.d HS1.out.rd).mono ?_
  rintro x w2 ⟨rfl, hr, hgr⟩
  have hs := HS1.out.call hr hgr
  clear hr hgr HY
  have c1 := (hs.store0 y).upd.c1
  have c := hs.upd.c0
  have f := hs.upd.f0 0
  have HS2 := Lib.hid (hs.store0 y)
  clear hs HS1
  go_wp2_with fail
  refine (HS.out _ HS2.out.d HS2.out.rd).mono ?_
  rintro x w3 ⟨rfl, hr, hgr⟩
  have hs := HS2.out.call hr hgr
  clear hr hgr HS
  have c := hs.upd.c2
  have f := hs.upd.f0 2
  have HS3 := Lib.hid (hs.store2 n)
  clear hs HS2
  have d0 := HS3.out.upd.c0
  have d1 := HS3.out.upd.c1
  have d2 := HS3.out.upd.c2
  have d3 := HS3.out.upd.c3
  have o0 := HS3.out.out.c0
  have o1 := HS3.out.out.c1
  have o2 := HS3.out.out.c2
  have o3 := HS3.out.out.c3
  have g0 := HS3.out.out.f0 0
  have g1 := HS3.out.out.f0 1
  have g2 := HS3.out.out.f0 2
  have g3 := HS3.out.out.f0 3
  simp only [up0] at d0 d1 d2 d3 o0 o1 o2 o3
  go_wp2_with fail
  refine (err_any b _ _ _ HS3.out.rd).mono ?_
  rintro x w9 ⟨rfl, rfl⟩
  go_wp2
  refine bodyPost_ret (v := .agg #[.string y, .int .i64 1, .int .i64 n, .string ⟨#[]⟩]) (by simp [results, Tryd.results53, go_sem, o0, o1, o2, o3]) rfl ⟨rfl, HS3.out.rd.set4 (by omega) _ _ _ _, grown_set4 HS3.out.g (Nat.le_refl _) _ _ _ _⟩
set_option maxHeartbeats 1000000 in
theorem crd_3z (b : Nat) (R0 R1 R2 R3 y : ByteArray) (n : Int) (E0 E1 E2 E3 : Int) (hE : E3 ≠ 0) (hb : 0 < b) (w : World) (hd : Wd w) (h : Rd w b R0 E0)
    (HK : Hid (∀ w, Wd w → Rd w b R0 E0 → Calls Tryd.prog 66 #[.pointer (some ⟨b, 0, none⟩)] w fun x w' => x = .returned (.int .i64 3) ∧ Rd w' b R1 E1 ∧ w.grownBy w' (some b)))
    (HY : Hid (∀ w, Wd w → Rd w b R1 E1 → Calls Tryd.prog 67 #[.pointer (some ⟨b, 0, none⟩)] w fun x w' => x = .returned (.string y) ∧ Rd w' b R2 E2 ∧ w.grownBy w' (some b)))
    (HS : Hid (∀ w, Wd w → Rd w b R2 E2 → Calls Tryd.prog 68 #[.pointer (some ⟨b, 0, none⟩)] w fun x w' => x = .returned (.int .i64 n) ∧ Rd w' b R3 E3 ∧ w.grownBy w' (some b))) :
    Calls Tryd.prog 53 #[.pointer (some ⟨b, 0, none⟩)] w fun x w' => x = .returned (.agg #[.string ⟨#[]⟩, .int .i64 0, .int .i64 0, .string ⟨#[]⟩]) ∧ Rd w' b R3 E3 ∧ w.grownBy w' (some b) := by
  have HS0 := Lib.hid (RS.start hb hd h)
  have hlt := h.lt
  clear hd h
  have k1 : (E3 == 0) = false := by rw [beq_eq_false_iff_ne]; exact hE
  go_enter Tryd.func53, Tryd.ntmps53
  go_wp2_with fail
  refine (HK.out _ HS0.out.d HS0.out.rd).mono ?_
  rintro x w1 ⟨rfl, hr, hgr⟩
  have hs := HS0.out.call hr hgr
  clear hr hgr HK
  have c := hs.upd.c1
  have f := hs.upd.f0 1
  have HS1 := Lib.hid (hs.store1 3)
  clear hs HS0
  go_wp2_with fail
  refine (HY.out _ HS1.out.d HS1.out.rd).mono ?_
  rintro x w2 ⟨rfl, hr, hgr⟩
  have hs := HS1.out.call hr hgr
  clear hr hgr HY
  have c1 := (hs.store0 y).upd.c1
  have c := hs.upd.c0
  have f := hs.upd.f0 0
  have HS2 := Lib.hid (hs.store0 y)
  clear hs HS1
  go_wp2_with fail
  refine (HS.out _ HS2.out.d HS2.out.rd).mono ?_
  rintro x w3 ⟨rfl, hr, hgr⟩
  have hs := HS2.out.call hr hgr
  clear hr hgr HS
  have c := hs.upd.c2
  have f := hs.upd.f0 2
  have HS3 := Lib.hid (hs.store2 n)
  clear hs HS2
  have d0 := HS3.out.upd.c0
  have d1 := HS3.out.upd.c1
  have d2 := HS3.out.upd.c2
  have d3 := HS3.out.upd.c3
  have o0 := HS3.out.out.c0
  have o1 := HS3.out.out.c1
  have o2 := HS3.out.out.c2
  have o3 := HS3.out.out.c3
  have g0 := HS3.out.out.f0 0
  have g1 := HS3.out.out.f0 1
  have g2 := HS3.out.out.f0 2
  have g3 := HS3.out.out.f0 3
  simp only [up0] at d0 d1 d2 d3 o0 o1 o2 o3
  go_wp2_with fail
  refine (err_any b _ _ _ HS3.out.rd).mono ?_
  rintro x w9 ⟨rfl, rfl⟩
  go_wp2
  refine bodyPost_ret (v := .agg #[.string ⟨#[]⟩, .int .i64 0, .int .i64 0, .string ⟨#[]⟩]) (by simp [results, Tryd.results53, go_sem, o0, o1, o2, o3]) rfl ⟨rfl, HS3.out.rd.set4 (by omega) _ _ _ _, grown_set4 HS3.out.g (Nat.le_refl _) _ _ _ _⟩
set_option maxHeartbeats 1000000 in
theorem crd_3 (b : Nat) (R0 R1 R2 R3 y : ByteArray) (n : Int) (E0 E1 E2 : Int) (hb : 0 < b) (w : World) (hd : Wd w) (h : Rd w b R0 E0)
    (HK : Hid (∀ w, Wd w → Rd w b R0 E0 → Calls Tryd.prog 66 #[.pointer (some ⟨b, 0, none⟩)] w fun x w' => x = .returned (.int .i64 3) ∧ Rd w' b R1 E1 ∧ w.grownBy w' (some b)))
    (HY : Hid (∀ w, Wd w → Rd w b R1 E1 → Calls Tryd.prog 67 #[.pointer (some ⟨b, 0, none⟩)] w fun x w' => x = .returned (.string y) ∧ Rd w' b R2 E2 ∧ w.grownBy w' (some b)))
    (HS : Hid (∀ w, Wd w → Rd w b R2 E2 → Calls Tryd.prog 68 #[.pointer (some ⟨b, 0, none⟩)] w fun x w' => x = .returned (.int .i64 n) ∧ Rd w' b R3 0 ∧ w.grownBy w' (some b))) :
    Calls Tryd.prog 53 #[.pointer (some ⟨b, 0, none⟩)] w fun x w' => x = .returned (.agg #[.string y, .int .i64 3, .int .i64 n, .string ⟨#[]⟩]) ∧ Rd w' b R3 0 ∧ w.grownBy w' (some b) := by
  have HS0 := Lib.hid (RS.start hb hd h)
  have hlt := h.lt
  clear hd h
  go_enter Tryd.func53, Tryd.ntmps53
  go_wp2_with fail
  refine (HK.out _ HS0.out.d HS0.out.rd).mono ?_
  rintro x w1 ⟨rfl, hr, hgr⟩
  have hs := HS0.out.call hr hgr
  clear hr hgr HK
  have c := hs.upd.c1
  have f := hs.upd.f0 1
  have HS1 := Lib.hid (hs.store1 3)
  clear hs HS0
  go_wp2_with fail
  refine (HY.out _ HS1.out.d HS1.out.rd).mono ?_
  rintro x w2 ⟨rfl, hr, hgr⟩
  have hs := HS1.out.call hr hgr
  clear hr hgr HY
  have c1 := (hs.store0 y).upd.c1
  have c := hs.upd.c0
  have f := hs.upd.f0 0
  have HS2 := Lib.hid (hs.store0 y)
  clear hs HS1
  go_wp2_with fail
  refine (HS.out _ HS2.out.d HS2.out.rd).mono ?_
  rintro x w3 ⟨rfl, hr, hgr⟩
  have hs := HS2.out.call hr hgr
  clear hr hgr HS
  have c := hs.upd.c2
  have f := hs.upd.f0 2
  have HS3 := Lib.hid (hs.store2 n)
  clear hs HS2
  have d0 := HS3.out.upd.c0
  have d1 := HS3.out.upd.c1
  have d2 := HS3.out.upd.c2
  have d3 := HS3.out.upd.c3
  have o0 := HS3.out.out.c0
  have o1 := HS3.out.out.c1
  have o2 := HS3.out.out.c2
  have o3 := HS3.out.out.c3
  have g0 := HS3.out.out.f0 0
  have g1 := HS3.out.out.f0 1
  have g2 := HS3.out.out.f0 2
  have g3 := HS3.out.out.f0 3
  simp only [up0] at d0 d1 d2 d3 o0 o1 o2 o3
  go_wp2_with fail
  refine (err_any b _ _ _ HS3.out.rd).mono ?_
  rintro x w9 ⟨rfl, rfl⟩
  go_wp2
  refine bodyPost_ret (v := .agg #[.string y, .int .i64 3, .int .i64 n, .string ⟨#[]⟩]) (by simp [results, Tryd.results53, go_sem, o0, o1, o2, o3]) rfl ⟨rfl, HS3.out.rd.set4 (by omega) _ _ _ _, grown_set4 HS3.out.g (Nat.le_refl _) _ _ _ _⟩
set_option maxHeartbeats 1000000 in
theorem crd_2z (b : Nat) (R0 R1 R2 R3 y : ByteArray) (s : ByteArray) (E0 E1 E2 E3 : Int) (hE : E3 ≠ 0) (hb : 0 < b) (w : World) (hd : Wd w) (h : Rd w b R0 E0)
    (HK : Hid (∀ w, Wd w → Rd w b R0 E0 → Calls Tryd.prog 66 #[.pointer (some ⟨b, 0, none⟩)] w fun x w' => x = .returned (.int .i64 2) ∧ Rd w' b R1 E1 ∧ w.grownBy w' (some b)))
    (HY : Hid (∀ w, Wd w → Rd w b R1 E1 → Calls Tryd.prog 67 #[.pointer (some ⟨b, 0, none⟩)] w fun x w' => x = .returned (.string y) ∧ Rd w' b R2 E2 ∧ w.grownBy w' (some b)))
    (HS : Hid (∀ w, Wd w → Rd w b R2 E2 → Calls Tryd.prog 69 #[.pointer (some ⟨b, 0, none⟩), .int .i64 32] w fun x w' => x = .returned (.string s) ∧ Rd w' b R3 E3 ∧ w.grownBy w' (some b))) :
    Calls Tryd.prog 53 #[.pointer (some ⟨b, 0, none⟩)] w fun x w' => x = .returned (.agg #[.string ⟨#[]⟩, .int .i64 0, .int .i64 0, .string ⟨#[]⟩]) ∧ Rd w' b R3 E3 ∧ w.grownBy w' (some b) := by
  have HS0 := Lib.hid (RS.start hb hd h)
  have hlt := h.lt
  clear hd h
  have k1 : (E3 == 0) = false := by rw [beq_eq_false_iff_ne]; exact hE
  go_enter Tryd.func53, Tryd.ntmps53
  go_wp2_with fail
  refine (HK.out _ HS0.out.d HS0.out.rd).mono ?_
  rintro x w1 ⟨rfl, hr, hgr⟩
  have hs := HS0.out.call hr hgr
  clear hr hgr HK
  have c := hs.upd.c1
  have f := hs.upd.f0 1
  have HS1 := Lib.hid (hs.store1 2)
  clear hs HS0
  go_wp2_with fail
  refine (HY.out _ HS1.out.d HS1.out.rd).mono ?_
  rintro x w2 ⟨rfl, hr, hgr⟩
  have hs := HS1.out.call hr hgr
  clear hr hgr HY
  have c1 := (hs.store0 y).upd.c1
  have c := hs.upd.c0
  have f := hs.upd.f0 0
  have HS2 := Lib.hid (hs.store0 y)
  clear hs HS1
  go_wp2_with fail
  refine (HS.out _ HS2.out.d HS2.out.rd).mono ?_
  rintro x w3 ⟨rfl, hr, hgr⟩
  have hs := HS2.out.call hr hgr
  clear hr hgr HS
  have c := hs.upd.c3
  have f := hs.upd.f0 3
  have HS3 := Lib.hid (hs.store3 s)
  clear hs HS2
  have d0 := HS3.out.upd.c0
  have d1 := HS3.out.upd.c1
  have d2 := HS3.out.upd.c2
  have d3 := HS3.out.upd.c3
  have o0 := HS3.out.out.c0
  have o1 := HS3.out.out.c1
  have o2 := HS3.out.out.c2
  have o3 := HS3.out.out.c3
  have g0 := HS3.out.out.f0 0
  have g1 := HS3.out.out.f0 1
  have g2 := HS3.out.out.f0 2
  have g3 := HS3.out.out.f0 3
  simp only [up0] at d0 d1 d2 d3 o0 o1 o2 o3
  go_wp2_with fail
  refine (err_any b _ _ _ HS3.out.rd).mono ?_
  rintro x w9 ⟨rfl, rfl⟩
  go_wp2
  refine bodyPost_ret (v := .agg #[.string ⟨#[]⟩, .int .i64 0, .int .i64 0, .string ⟨#[]⟩]) (by simp [results, Tryd.results53, go_sem, o0, o1, o2, o3]) rfl ⟨rfl, HS3.out.rd.set4 (by omega) _ _ _ _, grown_set4 HS3.out.g (Nat.le_refl _) _ _ _ _⟩
set_option maxHeartbeats 1000000 in
theorem crd_2 (b : Nat) (R0 R1 R2 R3 y : ByteArray) (s : ByteArray) (E0 E1 E2 : Int) (hb : 0 < b) (w : World) (hd : Wd w) (h : Rd w b R0 E0)
    (HK : Hid (∀ w, Wd w → Rd w b R0 E0 → Calls Tryd.prog 66 #[.pointer (some ⟨b, 0, none⟩)] w fun x w' => x = .returned (.int .i64 2) ∧ Rd w' b R1 E1 ∧ w.grownBy w' (some b)))
    (HY : Hid (∀ w, Wd w → Rd w b R1 E1 → Calls Tryd.prog 67 #[.pointer (some ⟨b, 0, none⟩)] w fun x w' => x = .returned (.string y) ∧ Rd w' b R2 E2 ∧ w.grownBy w' (some b)))
    (HS : Hid (∀ w, Wd w → Rd w b R2 E2 → Calls Tryd.prog 69 #[.pointer (some ⟨b, 0, none⟩), .int .i64 32] w fun x w' => x = .returned (.string s) ∧ Rd w' b R3 0 ∧ w.grownBy w' (some b))) :
    Calls Tryd.prog 53 #[.pointer (some ⟨b, 0, none⟩)] w fun x w' => x = .returned (.agg #[.string y, .int .i64 2, .int .i64 0, .string s]) ∧ Rd w' b R3 0 ∧ w.grownBy w' (some b) := by
  have HS0 := Lib.hid (RS.start hb hd h)
  have hlt := h.lt
  clear hd h
  go_enter Tryd.func53, Tryd.ntmps53
  go_wp2_with fail
  refine (HK.out _ HS0.out.d HS0.out.rd).mono ?_
  rintro x w1 ⟨rfl, hr, hgr⟩
  have hs := HS0.out.call hr hgr
  clear hr hgr HK
  have c := hs.upd.c1
  have f := hs.upd.f0 1
  have HS1 := Lib.hid (hs.store1 2)
  clear hs HS0
  go_wp2_with fail
  refine (HY.out _ HS1.out.d HS1.out.rd).mono ?_
  rintro x w2 ⟨rfl, hr, hgr⟩
  have hs := HS1.out.call hr hgr
  clear hr hgr HY
  have c1 := (hs.store0 y).upd.c1
  have c := hs.upd.c0
  have f := hs.upd.f0 0
  have HS2 := Lib.hid (hs.store0 y)
  clear hs HS1
  go_wp2_with fail
  refine (HS.out _ HS2.out.d HS2.out.rd).mono ?_
  rintro x w3 ⟨rfl, hr, hgr⟩
  have hs := HS2.out.call hr hgr
  clear hr hgr HS
  have c := hs.upd.c3
  have f := hs.upd.f0 3
  have HS3 := Lib.hid (hs.store3 s)
  clear hs HS2
  have d0 := HS3.out.upd.c0
  have d1 := HS3.out.upd.c1
  have d2 := HS3.out.upd.c2
  have d3 := HS3.out.upd.c3
  have o0 := HS3.out.out.c0
  have o1 := HS3.out.out.c1
  have o2 := HS3.out.out.c2
  have o3 := HS3.out.out.c3
  have g0 := HS3.out.out.f0 0
  have g1 := HS3.out.out.f0 1
  have g2 := HS3.out.out.f0 2
  have g3 := HS3.out.out.f0 3
  simp only [up0] at d0 d1 d2 d3 o0 o1 o2 o3
  go_wp2_with fail
  refine (err_any b _ _ _ HS3.out.rd).mono ?_
  rintro x w9 ⟨rfl, rfl⟩
  go_wp2
  refine bodyPost_ret (v := .agg #[.string y, .int .i64 2, .int .i64 0, .string s]) (by simp [results, Tryd.results53, go_sem, o0, o1, o2, o3]) rfl ⟨rfl, HS3.out.rd.set4 (by omega) _ _ _ _, grown_set4 HS3.out.g (Nat.le_refl _) _ _ _ _⟩
set_option maxHeartbeats 1000000 in
theorem crd_4z (b : Nat) (R0 R1 R2 R3 y : ByteArray) (s : ByteArray) (E0 E1 E2 E3 : Int) (hE : E3 ≠ 0) (hb : 0 < b) (w : World) (hd : Wd w) (h : Rd w b R0 E0)
    (HK : Hid (∀ w, Wd w → Rd w b R0 E0 → Calls Tryd.prog 66 #[.pointer (some ⟨b, 0, none⟩)] w fun x w' => x = .returned (.int .i64 4) ∧ Rd w' b R1 E1 ∧ w.grownBy w' (some b)))
    (HY : Hid (∀ w, Wd w → Rd w b R1 E1 → Calls Tryd.prog 67 #[.pointer (some ⟨b, 0, none⟩)] w fun x w' => x = .returned (.string y) ∧ Rd w' b R2 E2 ∧ w.grownBy w' (some b)))
    (HS : Hid (∀ w, Wd w → Rd w b R2 E2 → Calls Tryd.prog 69 #[.pointer (some ⟨b, 0, none⟩), .int .i64 32] w fun x w' => x = .returned (.string s) ∧ Rd w' b R3 E3 ∧ w.grownBy w' (some b))) :
    Calls Tryd.prog 53 #[.pointer (some ⟨b, 0, none⟩)] w fun x w' => x = .returned (.agg #[.string ⟨#[]⟩, .int .i64 0, .int .i64 0, .string ⟨#[]⟩]) ∧ Rd w' b R3 E3 ∧ w.grownBy w' (some b) := by
  have HS0 := Lib.hid (RS.start hb hd h)
  have hlt := h.lt
  clear hd h
  have k1 : (E3 == 0) = false := by rw [beq_eq_false_iff_ne]; exact hE
  go_enter Tryd.func53, Tryd.ntmps53
  go_wp2_with fail
  refine (HK.out _ HS0.out.d HS0.out.rd).mono ?_
  rintro x w1 ⟨rfl, hr, hgr⟩
  have hs := HS0.out.call hr hgr
  clear hr hgr HK
  have c := hs.upd.c1
  have f := hs.upd.f0 1
  have HS1 := Lib.hid (hs.store1 4)
  clear hs HS0
  go_wp2_with fail
  refine (HY.out _ HS1.out.d HS1.out.rd).mono ?_
  rintro x w2 ⟨rfl, hr, hgr⟩
  have hs := HS1.out.call hr hgr
  clear hr hgr HY
  have c1 := (hs.store0 y).upd.c1
  have c := hs.upd.c0
  have f := hs.upd.f0 0
  have HS2 := Lib.hid (hs.store0 y)
  clear hs HS1
  go_wp2_with fail
  refine (HS.out _ HS2.out.d HS2.out.rd).mono ?_
  rintro x w3 ⟨rfl, hr, hgr⟩
  have hs := HS2.out.call hr hgr
  clear hr hgr HS
  have c := hs.upd.c3
  have f := hs.upd.f0 3
  have HS3 := Lib.hid (hs.store3 s)
  clear hs HS2
  have d0 := HS3.out.upd.c0
  have d1 := HS3.out.upd.c1
  have d2 := HS3.out.upd.c2
  have d3 := HS3.out.upd.c3
  have o0 := HS3.out.out.c0
  have o1 := HS3.out.out.c1
  have o2 := HS3.out.out.c2
  have o3 := HS3.out.out.c3
  have g0 := HS3.out.out.f0 0
  have g1 := HS3.out.out.f0 1
  have g2 := HS3.out.out.f0 2
  have g3 := HS3.out.out.f0 3
  simp only [up0] at d0 d1 d2 d3 o0 o1 o2 o3
  go_wp2_with fail
  refine (err_any b _ _ _ HS3.out.rd).mono ?_
  rintro x w9 ⟨rfl, rfl⟩
  go_wp2
  refine bodyPost_ret (v := .agg #[.string ⟨#[]⟩, .int .i64 0, .int .i64 0, .string ⟨#[]⟩]) (by simp [results, Tryd.results53, go_sem, o0, o1, o2, o3]) rfl ⟨rfl, HS3.out.rd.set4 (by omega) _ _ _ _, grown_set4 HS3.out.g (Nat.le_refl _) _ _ _ _⟩
set_option maxHeartbeats 1000000 in
theorem crd_4 (b : Nat) (R0 R1 R2 R3 y : ByteArray) (s : ByteArray) (E0 E1 E2 : Int) (hb : 0 < b) (w : World) (hd : Wd w) (h : Rd w b R0 E0)
    (HK : Hid (∀ w, Wd w → Rd w b R0 E0 → Calls Tryd.prog 66 #[.pointer (some ⟨b, 0, none⟩)] w fun x w' => x = .returned (.int .i64 4) ∧ Rd w' b R1 E1 ∧ w.grownBy w' (some b)))
    (HY : Hid (∀ w, Wd w → Rd w b R1 E1 → Calls Tryd.prog 67 #[.pointer (some ⟨b, 0, none⟩)] w fun x w' => x = .returned (.string y) ∧ Rd w' b R2 E2 ∧ w.grownBy w' (some b)))
    (HS : Hid (∀ w, Wd w → Rd w b R2 E2 → Calls Tryd.prog 69 #[.pointer (some ⟨b, 0, none⟩), .int .i64 32] w fun x w' => x = .returned (.string s) ∧ Rd w' b R3 0 ∧ w.grownBy w' (some b))) :
    Calls Tryd.prog 53 #[.pointer (some ⟨b, 0, none⟩)] w fun x w' => x = .returned (.agg #[.string y, .int .i64 4, .int .i64 0, .string s]) ∧ Rd w' b R3 0 ∧ w.grownBy w' (some b) := by
  have HS0 := Lib.hid (RS.start hb hd h)
  have hlt := h.lt
  clear hd h
  go_enter Tryd.func53, Tryd.ntmps53
  go_wp2_with fail
  refine (HK.out _ HS0.out.d HS0.out.rd).mono ?_
  rintro x w1 ⟨rfl, hr, hgr⟩
  have hs := HS0.out.call hr hgr
  clear hr hgr HK
  have c := hs.upd.c1
  have f := hs.upd.f0 1
  have HS1 := Lib.hid (hs.store1 4)
  clear hs HS0
  go_wp2_with fail
  refine (HY.out _ HS1.out.d HS1.out.rd).mono ?_
  rintro x w2 ⟨rfl, hr, hgr⟩
  have hs := HS1.out.call hr hgr
  clear hr hgr HY
  have c1 := (hs.store0 y).upd.c1
  have c := hs.upd.c0
  have f := hs.upd.f0 0
  have HS2 := Lib.hid (hs.store0 y)
  clear hs HS1
  go_wp2_with fail
  refine (HS.out _ HS2.out.d HS2.out.rd).mono ?_
  rintro x w3 ⟨rfl, hr, hgr⟩
  have hs := HS2.out.call hr hgr
  clear hr hgr HS
  have c := hs.upd.c3
  have f := hs.upd.f0 3
  have HS3 := Lib.hid (hs.store3 s)
  clear hs HS2
  have d0 := HS3.out.upd.c0
  have d1 := HS3.out.upd.c1
  have d2 := HS3.out.upd.c2
  have d3 := HS3.out.upd.c3
  have o0 := HS3.out.out.c0
  have o1 := HS3.out.out.c1
  have o2 := HS3.out.out.c2
  have o3 := HS3.out.out.c3
  have g0 := HS3.out.out.f0 0
  have g1 := HS3.out.out.f0 1
  have g2 := HS3.out.out.f0 2
  have g3 := HS3.out.out.f0 3
  simp only [up0] at d0 d1 d2 d3 o0 o1 o2 o3
  go_wp2_with fail
  refine (err_any b _ _ _ HS3.out.rd).mono ?_
  rintro x w9 ⟨rfl, rfl⟩
  go_wp2
  refine bodyPost_ret (v := .agg #[.string y, .int .i64 4, .int .i64 0, .string s]) (by simp [results, Tryd.results53, go_sem, o0, o1, o2, o3]) rfl ⟨rfl, HS3.out.rd.set4 (by omega) _ _ _ _, grown_set4 HS3.out.g (Nat.le_refl _) _ _ _ _⟩
end Go.Proofs.YtcknklodnfabpaaDoor
