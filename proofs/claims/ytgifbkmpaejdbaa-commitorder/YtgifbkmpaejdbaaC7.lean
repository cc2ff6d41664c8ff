/- awake. -/
import Derived.Test.YtgifbkmpaejdbaaC6
namespace Go.Proofs.Ytgifbkmpaejdbaa
open Go Go.RowKit
set_option maxRecDepth 20000
def uK : Up := (⟨#[107]⟩, 5, 0, ⟨#[]⟩)
theorem uK_sm : Sm [uK] := ⟨by decide, fun i hi => by
  obtain rfl : i = 0 := by simpa using hi
  exact ⟨by decide, by decide⟩⟩
set_option maxHeartbeats 2000000 in
theorem one_any (o n : Int) (w : World) : Calls Try.prog 22 #[.int .i64 o, .int .i64 n] w fun e w' => ∃ r : Rn, e = .returned (rv r) ∧ kR r = (o, n, [uK]) ∧ Ru w' r ∧ Below w.heap.size w w' := by
  have hA := Joins.below_alloc1 w (.cells #[.int .i64 o, .int .i64 n, .slice (some ⟨w.heap.size + 1, 0, none⟩) 1 1] 31)
  have h1 : (w.alloc (.cells #[.int .i64 o, .int .i64 n, .slice (some ⟨w.heap.size + 1, 0, none⟩) 1 1] 31)).heap.size = w.heap.size + 1 := by simp
  have hu := heap_alloc_new (w.alloc (.cells #[.int .i64 o, .int .i64 n, .slice (some ⟨w.heap.size + 1, 0, none⟩) 1 1] 31)) (.cells #[.string ⟨#[107]⟩, .int .i64 5, .int .i64 0, .string ⟨#[]⟩] 47)
  rw [h1] at hu
  have HB := Lib.hid (Below.step hA (.cells #[.string ⟨#[107]⟩, .int .i64 5, .int .i64 0, .string ⟨#[]⟩] 47) (Below.refl _ _))
  have HU := Lib.hid hu
  clear hA hu h1
  go_enter Try.func22, Try.ntmps22
  go_wp2
  refine bodyPost_ret (v := .agg #[.int .i64 o, .int .i64 n, .slice (some ⟨w.heap.size + 1, 0, none⟩) 1 1]) (by simp [results, Try.results22, go_sem]) rfl ⟨⟨o, n, some ⟨w.heap.size + 1, 0, none⟩, 1, 1, [uK]⟩, rfl, rfl, ⟨⟨rfl, fun _ => ⟨w.heap.size + 1, 0, rfl, four fun i hi => ?_⟩⟩, Nat.le_refl _, fun e => by cases e⟩, HB.out⟩
  obtain rfl : i = 0 := by simpa using hi
  exact ⟨cell_at HU.out 0 _ rfl, cell_at HU.out 1 _ rfl, cell_at HU.out 2 _ rfl, cell_at HU.out 3 _ rfl⟩
section
variable {w0 : World} {b : Nat} {F : Nat → Prop}
theorem new2 (w : World) : Calls Try.prog 9 #[.int .i64 2] w fun e w' => e = .returned (.pointer (some ⟨w.heap.size, 0, none⟩)) ∧ ∃ F, Cj 53 Pc w w' w.heap.size F 2 [] := by
  refine (cnew_any 2 w.heap.size w (Nat.le_refl _)).mono ?_
  rintro e w1 ⟨rfl, hj, hb⟩
  exact ⟨rfl, _, hb, hj⟩
theorem aw0 (r : Rn) (w : World) (hk : kR r = (1, 1, [uK])) (hu : Ru w r) (h : Cj 53 Pc w0 w b F 2 []) :
    Calls Try.prog 13 #[.pointer (some ⟨b, 0, none⟩), rv r] w fun e w' => e = .returned (.int .i64 0) ∧ ∃ F', Cj 53 Pc w0 w' b F' 2 [(1, 1, [uK])] := by
  have hs : r.us = [uK] := congrArg (fun x => x.2.2) hk
  refine (cadd_any (by decide) r (by rw [hs]; exact uK_sm) w hu h.j).mono ?_
  rintro e w1 ⟨rfl, F', hc⟩
  have h2 := h.com hc
  rw [hk] at h2 ⊢
  have e0 : comE 2 [] (1, 1, [uK]) = 0 := by decide +kernel
  rw [comL_yes e0] at h2
  exact ⟨by rw [e0], F', h2⟩
theorem aw1 (r : Rn) (w : World) (hk : kR r = (2, 1, [uK])) (hu : Ru w r) (h : Cj 53 Pc w0 w b F 2 [(1, 1, [uK])]) :
    Calls Try.prog 13 #[.pointer (some ⟨b, 0, none⟩), rv r] w fun e w' => e = .returned (.int .i64 0) ∧ ∃ F', Cj 53 Pc w0 w' b F' 2 [(1, 1, [uK]), (2, 1, [uK])] := by
  have hs : r.us = [uK] := congrArg (fun x => x.2.2) hk
  refine (cadd_any (by decide) r (by rw [hs]; exact uK_sm) w hu h.j).mono ?_
  rintro e w1 ⟨rfl, F', hc⟩
  have h2 := h.com hc
  rw [hk] at h2 ⊢
  have e0 : comE 2 [(1, 1, [uK])] (2, 1, [uK]) = 0 := by decide +kernel
  rw [comL_yes e0] at h2
  exact ⟨by rw [e0], F', h2⟩
theorem aw2 (r : Rn) (w : World) (hk : kR r = (1, 1, [uK])) (hu : Ru w r) (h : Cj 53 Pc w0 w b F 2 [(1, 1, [uK]), (2, 1, [uK])]) :
    Calls Try.prog 13 #[.pointer (some ⟨b, 0, none⟩), rv r] w fun e w' => e = .returned (.int .i64 12) ∧ ∃ F', Cj 53 Pc w0 w' b F' 2 [(1, 1, [uK]), (2, 1, [uK])] := by
  have hs : r.us = [uK] := congrArg (fun x => x.2.2) hk
  refine (cadd_any (by decide) r (by rw [hs]; exact uK_sm) w hu h.j).mono ?_
  rintro e w1 ⟨rfl, F', hc⟩
  have h2 := h.com hc
  rw [hk] at h2 ⊢
  have e0 : comE 2 [(1, 1, [uK]), (2, 1, [uK])] (1, 1, [uK]) = 12 := by decide +kernel
  rw [comL_no (by rw [e0]; decide)] at h2
  exact ⟨by rw [e0], F', h2⟩
theorem aw3 (r : Rn) (w : World) (hk : kR r = (1, 3, [uK])) (hu : Ru w r) (h : Cj 53 Pc w0 w b F 2 [(1, 1, [uK]), (2, 1, [uK])]) :
    Calls Try.prog 13 #[.pointer (some ⟨b, 0, none⟩), rv r] w fun e w' => e = .returned (.int .i64 10) ∧ ∃ F', Cj 53 Pc w0 w' b F' 2 [(1, 1, [uK]), (2, 1, [uK])] := by
  have hs : r.us = [uK] := congrArg (fun x => x.2.2) hk
  refine (cadd_any (by decide) r (by rw [hs]; exact uK_sm) w hu h.j).mono ?_
  rintro e w1 ⟨rfl, F', hc⟩
  have h2 := h.com hc
  rw [hk] at h2 ⊢
  have e0 : comE 2 [(1, 1, [uK]), (2, 1, [uK])] (1, 3, [uK]) = 10 := by decide +kernel
  rw [comL_no (by rw [e0]; decide)] at h2
  exact ⟨by rw [e0], F', h2⟩
theorem aw4 (r : Rn) (w : World) (hk : kR r = (1, 2, [uK])) (hu : Ru w r) (h : Cj 53 Pc w0 w b F 2 [(1, 1, [uK]), (2, 1, [uK])]) :
    Calls Try.prog 13 #[.pointer (some ⟨b, 0, none⟩), rv r] w fun e w' => e = .returned (.int .i64 0) ∧ ∃ F', Cj 53 Pc w0 w' b F' 2 [(1, 1, [uK]), (2, 1, [uK]), (1, 2, [uK])] := by
  have hs : r.us = [uK] := congrArg (fun x => x.2.2) hk
  refine (cadd_any (by decide) r (by rw [hs]; exact uK_sm) w hu h.j).mono ?_
  rintro e w1 ⟨rfl, F', hc⟩
  have h2 := h.com hc
  rw [hk] at h2 ⊢
  have e0 : comE 2 [(1, 1, [uK]), (2, 1, [uK])] (1, 2, [uK]) = 0 := by decide +kernel
  rw [comL_yes e0] at h2
  exact ⟨by rw [e0], F', h2⟩
theorem aw5 (r : Rn) (w : World) (hk : kR r = (3, 1, [uK])) (hu : Ru w r) (h : Cj 53 Pc w0 w b F 2 [(1, 1, [uK]), (2, 1, [uK]), (1, 2, [uK])]) :
    Calls Try.prog 13 #[.pointer (some ⟨b, 0, none⟩), rv r] w fun e w' => e = .returned (.int .i64 11) ∧ ∃ F', Cj 53 Pc w0 w' b F' 2 [(1, 1, [uK]), (2, 1, [uK]), (1, 2, [uK])] := by
  have hs : r.us = [uK] := congrArg (fun x => x.2.2) hk
  refine (cadd_any (by decide) r (by rw [hs]; exact uK_sm) w hu h.j).mono ?_
  rintro e w1 ⟨rfl, F', hc⟩
  have h2 := h.com hc
  rw [hk] at h2 ⊢
  have e0 : comE 2 [(1, 1, [uK]), (2, 1, [uK]), (1, 2, [uK])] (3, 1, [uK]) = 11 := by decide +kernel
  rw [comL_no (by rw [e0]; decide)] at h2
  exact ⟨by rw [e0], F', h2⟩
theorem aw_at (w : World) (h : Cj 53 Pc w0 w b F 2 [(1, 1, [uK]), (2, 1, [uK]), (1, 2, [uK])]) :
    Calls Try.prog 18 #[.pointer (some ⟨b, 0, none⟩), .int .i64 2] w fun e w' => ∃ a l c, e = .returned (.tuple #[.agg #[.int .i64 1, .int .i64 2, .slice a l c], .bool true]) ∧ Cj 53 Pc w0 w' b F 2 [(1, 1, [uK]), (2, 1, [uK]), (1, 2, [uK])] := by
  refine (cat_in (L := [(1, 1, [uK]), (2, 1, [uK]), (1, 2, [uK])]) 2 (by decide) w h.j).mono ?_
  rintro e w1 ⟨r, rfl, _, hk, hb⟩
  obtain ⟨ro, rn, ra, rl, rc, rus⟩ := r
  have e1 : ro = 1 := congrArg (fun x => x.1) hk
  have e2 : rn = 2 := congrArg (fun x => x.2.1) hk
  subst e1 e2
  exact ⟨ra, rl, rc, rfl, h.next hb⟩
theorem aw_len (w : World) (h : Cj 53 Pc w0 w b F 2 [(1, 1, [uK]), (2, 1, [uK]), (1, 2, [uK])]) :
    Calls Try.prog 15 #[.pointer (some ⟨b, 0, none⟩)] w fun e w' => e = .returned (.int .i64 3) ∧ w' = w := clen_any (L := [(1, 1, [uK]), (2, 1, [uK]), (1, 2, [uK])]) w h.j
theorem aw_last1 (w : World) (h : Cj 53 Pc w0 w b F 2 [(1, 1, [uK]), (2, 1, [uK]), (1, 2, [uK])]) :
    Calls Try.prog 20 #[.pointer (some ⟨b, 0, none⟩), .int .i64 1] w fun e w' => e = .returned (.int .i64 2) ∧ w' = w := clast_any (L := [(1, 1, [uK]), (2, 1, [uK]), (1, 2, [uK])]) 1 w h.j
theorem aw_last3 (w : World) (h : Cj 53 Pc w0 w b F 2 [(1, 1, [uK]), (2, 1, [uK]), (1, 2, [uK])]) :
    Calls Try.prog 20 #[.pointer (some ⟨b, 0, none⟩), .int .i64 3] w fun e w' => e = .returned (.int .i64 0) ∧ w' = w := clast_any (L := [(1, 1, [uK]), (2, 1, [uK]), (1, 2, [uK])]) 3 w h.j
theorem aw_all (w : World) (h : Cj 53 Pc w0 w b F 2 [(1, 1, [uK]), (2, 1, [uK]), (1, 2, [uK])]) :
    Calls Try.prog 17 #[.pointer (some ⟨b, 0, none⟩)] w fun e w' => ∃ g, e = .returned (.slice (some ⟨g, 0, none⟩) 3 3) ∧ Below w.heap.size w w' := by
  refine (call_any (L := [(1, 1, [uK]), (2, 1, [uK]), (1, 2, [uK])]) (by decide) w h.j).mono ?_
  rintro e w1 ⟨g, xs, rfl, _, _, _, _, hb⟩
  exact ⟨g, rfl, hb⟩
end
set_option maxHeartbeats 8000000 in
theorem awake_any (w : World) : Calls Try.prog 11 #[] w fun e w' => e = .returned (.bool true) ∧ Below w.heap.size w w' := by
  go_enter Try.func11, Try.ntmps11
  go_wp2_with fail
  refine (new2 w).mono ?_
  rintro e w1 ⟨rfl, F0, hj⟩
  have H := Lib.hid hj
  clear hj
  go_wp2_with fail
  refine (one_any 1 1 _).mono ?_
  rintro e u0 ⟨r, rfl, hk, hu, hb⟩
  have H := Lib.hid (H.out.next hb)
  have HK := Lib.hid hk
  have HU := Lib.hid hu
  clear hk hu hb
  go_wp2_with fail
  refine (aw0 r _ HK.out HU.out H.out).mono ?_
  rintro e v0 ⟨rfl, F1, hj⟩
  have H := Lib.hid hj
  clear hj HK HU
  go_wp2_with fail
  refine (one_any 2 1 _).mono ?_
  rintro e u1 ⟨r, rfl, hk, hu, hb⟩
  have H := Lib.hid (H.out.next hb)
  have HK := Lib.hid hk
  have HU := Lib.hid hu
  clear hk hu hb
  go_wp2_with fail
  refine (aw1 r _ HK.out HU.out H.out).mono ?_
  rintro e v1 ⟨rfl, F2, hj⟩
  have H := Lib.hid hj
  clear hj HK HU
  go_wp2_with fail
  refine (one_any 1 1 _).mono ?_
  rintro e u2 ⟨r, rfl, hk, hu, hb⟩
  have H := Lib.hid (H.out.next hb)
  have HK := Lib.hid hk
  have HU := Lib.hid hu
  clear hk hu hb
  go_wp2_with fail
  refine (aw2 r _ HK.out HU.out H.out).mono ?_
  rintro e v2 ⟨rfl, F3, hj⟩
  have H := Lib.hid hj
  clear hj HK HU
  go_wp2_with fail
  refine (one_any 1 3 _).mono ?_
  rintro e u3 ⟨r, rfl, hk, hu, hb⟩
  have H := Lib.hid (H.out.next hb)
  have HK := Lib.hid hk
  have HU := Lib.hid hu
  clear hk hu hb
  go_wp2_with fail
  refine (aw3 r _ HK.out HU.out H.out).mono ?_
  rintro e v3 ⟨rfl, F4, hj⟩
  have H := Lib.hid hj
  clear hj HK HU
  go_wp2_with fail
  refine (one_any 1 2 _).mono ?_
  rintro e u4 ⟨r, rfl, hk, hu, hb⟩
  have H := Lib.hid (H.out.next hb)
  have HK := Lib.hid hk
  have HU := Lib.hid hu
  clear hk hu hb
  go_wp2_with fail
  refine (aw4 r _ HK.out HU.out H.out).mono ?_
  rintro e v4 ⟨rfl, F5, hj⟩
  have H := Lib.hid hj
  clear hj HK HU
  go_wp2_with fail
  refine (one_any 3 1 _).mono ?_
  rintro e u5 ⟨r, rfl, hk, hu, hb⟩
  have H := Lib.hid (H.out.next hb)
  have HK := Lib.hid hk
  have HU := Lib.hid hu
  clear hk hu hb
  go_wp2_with fail
  refine (aw5 r _ HK.out HU.out H.out).mono ?_
  rintro e v5 ⟨rfl, F6, hj⟩
  have H := Lib.hid hj
  clear hj HK HU
  go_wp2_with fail
  refine (aw_at _ H.out).mono ?_
  rintro e w3 ⟨ra, rl, rc, rfl, hj⟩
  have H := Lib.hid hj
  have hr := Rb.new w3 1 2 ra rl rc
  have c1 := hr.c1
  have H2 := Lib.hid (hj.next (Joins.below_alloc1 w3 (.cells #[.int .i64 1, .int .i64 2, .slice ra rl rc] 31)))
  clear hj hr
  go_wp2_with fail
  refine (aw_len _ H2.out).mono ?_
  rintro e w4 ⟨rfl, rfl⟩
  go_wp2_with fail
  refine (aw_last1 _ H2.out).mono ?_
  rintro e w5 ⟨rfl, rfl⟩
  go_wp2_with fail
  refine (aw_last3 _ H2.out).mono ?_
  rintro e w6 ⟨rfl, rfl⟩
  go_wp2_with fail
  refine (aw_all _ H2.out).mono ?_
  rintro e w7 ⟨g, rfl, hb⟩
  have HF := Lib.hid (Below.next H2.out.bel hb)
  clear hb
  go_wp2
  go_ret
  exact ⟨rfl, HF.out⟩
end Go.Proofs.Ytgifbkmpaejdbaa
