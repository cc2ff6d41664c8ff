import Derived.Test.YtbbgibekplfacaaDoorB4
import Derived.Test.YtbbgibekplfacaaDoorU5
/- Write. -/
namespace Go.Proofs.YtbbgibekplfacaaDoor.X
open Go Go.RowKit
/-- How it stands within Write. -/
structure WS (w W : World) (base b p : Nat) (s : ByteArray) (u : Up) : Prop where
  hb : 0 < b
  hp : p ≠ b
  wr : ∃ v, Wr W base b v s false
  d : Wd W
  ub : Ub W p u
  fr : Fr base b w W
theorem WS.start {w : World} {base b : Nat} {s : ByteArray} (hb : 0 < b) (hd : Wd w) (h : ∃ v, Wr w base b v s false) (key : ByteArray) (k n : Int) (t : ByteArray) : WS w (w.alloc (.cells #[.string key, .int .i64 k, .int .i64 n, .string t] 32)) base b w.heap.size s (key, k, n, t) := by
  obtain ⟨v, hv⟩ := h
  have hbel := Joins.below_alloc1 w (.cells #[.string key, .int .i64 k, .int .i64 n, .string t] 32)
  have h1 := hv.lo
  have h2 := hv.hi
  exact ⟨hb, by omega, ⟨v, hv.below hbel⟩, hd.alloc _, Ub.new w (key, k, n, t), Fr.ofBelow hbel hv.hi⟩
theorem WS.call {w W W' : World} {base b p : Nat} {s s' : ByteArray} {u : Up} (h : WS w W base b p s u) (hw : ∃ v, Wr W' base b v s' false) (hf : Fr base b W W') : WS w W' base b p s' u :=
  ⟨h.hb, h.hp, hw, by obtain ⟨v, hv⟩ := h.wr; exact h.d.fr hf h.hb hv.lo, (hf.typ p _ _ _ h.ub (by decide) h.hp).trans h.ub, h.fr.trans hf⟩
theorem wnum_ok {w W : World} {base b p : Nat} {s : ByteArray} {u : Up} (h : WS w W base b p s u) {n : Int} (hn : okN n) (hsz : s.size + 8 ≤ 140737488355328) :
    Calls Tryd.prog 78 #[.pointer (some ⟨b, 0, none⟩), .int .i64 n] W fun x W' => x = .returned (.tuple #[]) ∧ WS w W' base b p (s ++ pxN n) u := by
  obtain ⟨v, hv⟩ := h.wr
  refine (wnum_any base b v s false n (by have := hn.1; omega) (by have := hn.2; omega) hsz (fun e => by cases e) W h.d hv).mono ?_
  rintro x W' ⟨rfl, hw, hf⟩
  rw [wS_N, decide_eq_true hn] at hw
  exact ⟨rfl, h.call hw hf⟩
theorem wsgn_ok {w W : World} {base b p : Nat} {s : ByteArray} {u : Up} (h : WS w W base b p s u) {n : Int} (hn : okS n) (hsz : s.size + 8 ≤ 140737488355328) :
    Calls Tryd.prog 88 #[.pointer (some ⟨b, 0, none⟩), .int .i64 n] W fun x W' => x = .returned (.tuple #[]) ∧ WS w W' base b p (s ++ pxS n) u := by
  obtain ⟨v, hv⟩ := h.wr
  refine (wsgn_any base b v s false n (by have := hn.1; omega) (by have := hn.2; omega) hsz (fun e => by cases e) W h.d hv).mono ?_
  rintro x W' ⟨rfl, hw, hf⟩
  rw [wS_S, decide_eq_true hn] at hw
  exact ⟨rfl, h.call hw hf⟩
theorem wtxt_ok {w W : World} {base b p : Nat} {s : ByteArray} {u : Up} (h : WS w W base b p s u) {t : ByteArray} (ht : t.size ≤ 1000000) (hsz : s.size + t.size + 8 ≤ 140737488355328) :
    Calls Tryd.prog 87 #[.pointer (some ⟨b, 0, none⟩), .string t] W fun x W' => x = .returned (.tuple #[]) ∧ WS w W' base b p (s ++ pxT t) u := by
  obtain ⟨v, hv⟩ := h.wr
  refine (wtxt_any base b v s t false ht hsz (fun e => by cases e) W h.d hv).mono ?_
  rintro x W' ⟨rfl, hw, hf⟩
  exact ⟨rfl, h.call hw hf⟩
set_option maxHeartbeats 1000000 in
theorem wrt_1 (base b : Nat) (s key t : ByteArray) (n : Int) (hb : 0 < b) (hsz : s.size + 3000 ≤ 140737488355328) (hkey : key.size ≤ 1000) (hn : okS n) (w : World) (hd : Wd w) (h : ∃ v, Wr w base b v s false) :
    Calls Tryd.prog 79 #[.pointer (some ⟨b, 0, none⟩), .agg #[.string key, .int .i64 1, .int .i64 n, .string t]] w fun x w' => x = .returned (.tuple #[]) ∧ (∃ v, Wr w' base b v (s ++ pxN 1 ++ pxT key ++ pxS n) false) ∧ Fr base b w w' := by
  have HS0 := Lib.hid (WS.start hb hd h key 1 n t)
  have z1 := pxN_size 1
  have z2 := pxT_size key (by omega)
  clear hd h
  go_enter Tryd.func79, Tryd.ntmps79
  have c1 := HS0.out.ub.c1
  go_wp2_with fail
  refine (wnum_ok HS0.out (n := 1) (by decide) (by omega)).mono ?_
  rintro x w1 ⟨rfl, hs⟩
  have c0 := hs.ub.c0
  have HS1 := Lib.hid hs
  clear hs HS0 c1
  go_wp2_with fail
  refine (wtxt_ok HS1.out (t := key) (by omega) (by rw [ByteArray.size_append]; omega)).mono ?_
  rintro x w2 ⟨rfl, hs⟩
  have c1 := hs.ub.c1
  have c2 := hs.ub.c2
  have c3 := hs.ub.c3
  have HS2 := Lib.hid hs
  clear hs HS1 c0
  go_wp2_with fail
  refine (wsgn_ok HS2.out (n := n) hn (by simp only [ByteArray.size_append]; omega)).mono ?_
  rintro x w3 ⟨rfl, hs⟩
  have HS3 := Lib.hid hs
  clear hs HS2 c1 c2 c3
  go_wp2
  first | go_end0 | refine bodyPost_ret (results_none rfl _ _ _) rfl ?_
  exact ⟨rfl, HS3.out.wr, HS3.out.fr⟩
set_option maxHeartbeats 1000000 in
theorem wrt_2 (base b : Nat) (s key t : ByteArray) (n : Int) (hb : 0 < b) (hsz : s.size + 3000 ≤ 140737488355328) (hkey : key.size ≤ 1000) (hs : t.size ≤ 1000) (w : World) (hd : Wd w) (h : ∃ v, Wr w base b v s false) :
    Calls Tryd.prog 79 #[.pointer (some ⟨b, 0, none⟩), .agg #[.string key, .int .i64 2, .int .i64 n, .string t]] w fun x w' => x = .returned (.tuple #[]) ∧ (∃ v, Wr w' base b v (s ++ pxN 2 ++ pxT key ++ pxT t) false) ∧ Fr base b w w' := by
  have HS0 := Lib.hid (WS.start hb hd h key 2 n t)
  have z1 := pxN_size 2
  have z2 := pxT_size key (by omega)
  clear hd h
  go_enter Tryd.func79, Tryd.ntmps79
  have c1 := HS0.out.ub.c1
  go_wp2_with fail
  refine (wnum_ok HS0.out (n := 2) (by decide) (by omega)).mono ?_
  rintro x w1 ⟨rfl, hs⟩
  have c0 := hs.ub.c0
  have HS1 := Lib.hid hs
  clear hs HS0 c1
  go_wp2_with fail
  refine (wtxt_ok HS1.out (t := key) (by omega) (by rw [ByteArray.size_append]; omega)).mono ?_
  rintro x w2 ⟨rfl, hs⟩
  have c1 := hs.ub.c1
  have c2 := hs.ub.c2
  have c3 := hs.ub.c3
  have HS2 := Lib.hid hs
  clear hs HS1 c0
  go_wp2_with fail
  refine (wtxt_ok HS2.out (t := t) (by omega) (by simp only [ByteArray.size_append]; omega)).mono ?_
  rintro x w3 ⟨rfl, hs⟩
  have HS3 := Lib.hid hs
  clear hs HS2 c1 c2 c3
  go_wp2
  first | go_end0 | refine bodyPost_ret (results_none rfl _ _ _) rfl ?_
  exact ⟨rfl, HS3.out.wr, HS3.out.fr⟩
set_option maxHeartbeats 1000000 in
theorem wrt_3 (base b : Nat) (s key t : ByteArray) (n : Int) (hb : 0 < b) (hsz : s.size + 3000 ≤ 140737488355328) (hkey : key.size ≤ 1000) (hn : okS n) (w : World) (hd : Wd w) (h : ∃ v, Wr w base b v s false) :
    Calls Tryd.prog 79 #[.pointer (some ⟨b, 0, none⟩), .agg #[.string key, .int .i64 3, .int .i64 n, .string t]] w fun x w' => x = .returned (.tuple #[]) ∧ (∃ v, Wr w' base b v (s ++ pxN 3 ++ pxT key ++ pxS n) false) ∧ Fr base b w w' := by
  have HS0 := Lib.hid (WS.start hb hd h key 3 n t)
  have z1 := pxN_size 3
  have z2 := pxT_size key (by omega)
  clear hd h
  go_enter Tryd.func79, Tryd.ntmps79
  have c1 := HS0.out.ub.c1
  go_wp2_with fail
  refine (wnum_ok HS0.out (n := 3) (by decide) (by omega)).mono ?_
  rintro x w1 ⟨rfl, hs⟩
  have c0 := hs.ub.c0
  have HS1 := Lib.hid hs
  clear hs HS0 c1
  go_wp2_with fail
  refine (wtxt_ok HS1.out (t := key) (by omega) (by rw [ByteArray.size_append]; omega)).mono ?_
  rintro x w2 ⟨rfl, hs⟩
  have c1 := hs.ub.c1
  have c2 := hs.ub.c2
  have c3 := hs.ub.c3
  have HS2 := Lib.hid hs
  clear hs HS1 c0
  go_wp2_with fail
  refine (wsgn_ok HS2.out (n := n) hn (by simp only [ByteArray.size_append]; omega)).mono ?_
  rintro x w3 ⟨rfl, hs⟩
  have HS3 := Lib.hid hs
  clear hs HS2 c1 c2 c3
  go_wp2
  first | go_end0 | refine bodyPost_ret (results_none rfl _ _ _) rfl ?_
  exact ⟨rfl, HS3.out.wr, HS3.out.fr⟩
set_option maxHeartbeats 1000000 in
theorem wrt_4 (base b : Nat) (s key t : ByteArray) (n : Int) (hb : 0 < b) (hsz : s.size + 3000 ≤ 140737488355328) (hkey : key.size ≤ 1000) (hs : t.size ≤ 1000) (w : World) (hd : Wd w) (h : ∃ v, Wr w base b v s false) :
    Calls Tryd.prog 79 #[.pointer (some ⟨b, 0, none⟩), .agg #[.string key, .int .i64 4, .int .i64 n, .string t]] w fun x w' => x = .returned (.tuple #[]) ∧ (∃ v, Wr w' base b v (s ++ pxN 4 ++ pxT key ++ pxT t) false) ∧ Fr base b w w' := by
  have HS0 := Lib.hid (WS.start hb hd h key 4 n t)
  have z1 := pxN_size 4
  have z2 := pxT_size key (by omega)
  clear hd h
  go_enter Tryd.func79, Tryd.ntmps79
  have c1 := HS0.out.ub.c1
  go_wp2_with fail
  refine (wnum_ok HS0.out (n := 4) (by decide) (by omega)).mono ?_
  rintro x w1 ⟨rfl, hs⟩
  have c0 := hs.ub.c0
  have HS1 := Lib.hid hs
  clear hs HS0 c1
  go_wp2_with fail
  refine (wtxt_ok HS1.out (t := key) (by omega) (by rw [ByteArray.size_append]; omega)).mono ?_
  rintro x w2 ⟨rfl, hs⟩
  have c1 := hs.ub.c1
  have c2 := hs.ub.c2
  have c3 := hs.ub.c3
  have HS2 := Lib.hid hs
  clear hs HS1 c0
  go_wp2_with fail
  refine (wtxt_ok HS2.out (t := t) (by omega) (by simp only [ByteArray.size_append]; omega)).mono ?_
  rintro x w3 ⟨rfl, hs⟩
  have HS3 := Lib.hid hs
  clear hs HS2 c1 c2 c3
  go_wp2
  first | go_end0 | refine bodyPost_ret (results_none rfl _ _ _) rfl ?_
  exact ⟨rfl, HS3.out.wr, HS3.out.fr⟩
set_option maxHeartbeats 1000000 in
theorem wrt_5 (base b : Nat) (s key t : ByteArray) (n : Int) (hb : 0 < b) (hsz : s.size + 3000 ≤ 140737488355328) (hkey : key.size ≤ 1000) (w : World) (hd : Wd w) (h : ∃ v, Wr w base b v s false) :
    Calls Tryd.prog 79 #[.pointer (some ⟨b, 0, none⟩), .agg #[.string key, .int .i64 5, .int .i64 n, .string t]] w fun x w' => x = .returned (.tuple #[]) ∧ (∃ v, Wr w' base b v (s ++ pxN 5 ++ pxT key) false) ∧ Fr base b w w' := by
  have HS0 := Lib.hid (WS.start hb hd h key 5 n t)
  have z1 := pxN_size 5
  have z2 := pxT_size key (by omega)
  clear hd h
  go_enter Tryd.func79, Tryd.ntmps79
  have c1 := HS0.out.ub.c1
  go_wp2_with fail
  refine (wnum_ok HS0.out (n := 5) (by decide) (by omega)).mono ?_
  rintro x w1 ⟨rfl, hs⟩
  have c0 := hs.ub.c0
  have HS1 := Lib.hid hs
  clear hs HS0 c1
  go_wp2_with fail
  refine (wtxt_ok HS1.out (t := key) (by omega) (by rw [ByteArray.size_append]; omega)).mono ?_
  rintro x w2 ⟨rfl, hs⟩
  have c1 := hs.ub.c1
  have c2 := hs.ub.c2
  have c3 := hs.ub.c3
  have HS2 := Lib.hid hs
  clear hs HS1 c0
  go_wp2
  first | go_end0 | refine bodyPost_ret (results_none rfl _ _ _) rfl ?_
  exact ⟨rfl, HS2.out.wr, HS2.out.fr⟩
/-- What the Kind has. -/
def pxK (u : Up) : ByteArray := if u.2.1 = 1 ∨ u.2.1 = 3 then pxS u.2.2.1 else if u.2.1 = 2 ∨ u.2.1 = 4 then pxT u.2.2.2 else ⟨#[]⟩
/-- An update's bytes. -/
def pxU (u : Up) : ByteArray := pxN u.2.1 ++ pxT u.1 ++ pxK u
theorem may_ok (u : Up) (h : mayE u = 0) : 1 ≤ u.1.size ∧ u.1.size ≤ 16 ∧ (((u.2.1 = 1 ∨ u.2.1 = 3) ∧ okS u.2.2.1 ∧ u.2.2.2 = ⟨#[]⟩) ∨ ((u.2.1 = 2 ∨ u.2.1 = 4) ∧ u.2.2.1 = 0 ∧ u.2.2.2.size ≤ 32) ∨ (u.2.1 = 5 ∧ u.2.2.1 = 0 ∧ u.2.2.2 = ⟨#[]⟩)) := by
  obtain ⟨key, k, n, t⟩ := u
  by_cases hk : key.size = 0 ∨ 16 < key.size
  · rw [mayE_key _ _ _ _ hk] at h; exact absurd h (by decide)
  rw [mayE_in _ _ _ _ (by omega) (by omega)] at h
  refine ⟨by show 1 ≤ key.size; omega, by show key.size ≤ 16; omega, ?_⟩
  unfold mayK at h
  split at h
  · rename_i h1
    split at h
    · rename_i h2
      split at h
      · exact absurd h (by decide)
      · exact .inl ⟨h1, by unfold okS; show -2305843009213693952 ≤ n ∧ n < 2305843009213693952; omega, h2⟩
    · exact absurd h (by decide)
  · split at h
    · rename_i h1
      split at h
      · rename_i h2
        split at h
        · exact absurd h (by decide)
        · exact .inr (.inl ⟨h1, h2, by show t.size ≤ 32; omega⟩)
      · exact absurd h (by decide)
    · split at h
      · rename_i h1
        split at h
        · rename_i h2; exact .inr (.inr ⟨h1, h2.1, h2.2⟩)
        · exact absurd h (by decide)
      · exact absurd h (by decide)
theorem ok_may (u : Up) (h1 : 1 ≤ u.1.size) (h2 : u.1.size ≤ 16) (h : (((u.2.1 = 1 ∨ u.2.1 = 3) ∧ okS u.2.2.1 ∧ u.2.2.2 = ⟨#[]⟩) ∨ ((u.2.1 = 2 ∨ u.2.1 = 4) ∧ u.2.2.1 = 0 ∧ u.2.2.2.size ≤ 32) ∨ (u.2.1 = 5 ∧ u.2.2.1 = 0 ∧ u.2.2.2 = ⟨#[]⟩))) : mayE u = 0 := by
  obtain ⟨key, k, n, t⟩ := u
  rw [mayE_in _ _ _ _ h1 h2]
  simp only at h
  unfold mayK
  rcases h with ⟨a, b, c⟩ | ⟨a, b, c⟩ | ⟨a, b, c⟩
  · unfold okS at b
    rw [if_pos a, if_pos c, if_neg (by omega)]
  · rw [if_neg (by omega), if_pos a, if_pos b, if_neg (by omega)]
  · rw [if_neg (by omega), if_neg (by omega), if_pos a, if_pos ⟨b, c⟩]
theorem pxU_1 (key t : ByteArray) (k n : Int) (hk : k = 1 ∨ k = 3) : pxU (key, k, n, t) = pxN k ++ pxT key ++ pxS n := by unfold pxU pxK; simp only; rw [if_pos hk]
theorem pxU_2 (key t : ByteArray) (k n : Int) (hk : k = 2 ∨ k = 4) : pxU (key, k, n, t) = pxN k ++ pxT key ++ pxT t := by unfold pxU pxK; simp only; rw [if_neg (by omega), if_pos hk]
theorem pxU_5 (key t : ByteArray) (n : Int) : pxU (key, 5, n, t) = pxN 5 ++ pxT key := by unfold pxU pxK; simp only; rw [if_neg (by omega), if_neg (by omega), app_empty]
theorem wrt_any (base b : Nat) (s : ByteArray) (u : Up) (hb : 0 < b) (hsz : s.size + 3000 ≤ 140737488355328) (hu : mayE u = 0) (w : World) (hd : Wd w) (h : ∃ v, Wr w base b v s false) :
    Calls Tryd.prog 79 #[.pointer (some ⟨b, 0, none⟩), uu u] w fun x w' => x = .returned (.tuple #[]) ∧ (∃ v, Wr w' base b v (s ++ pxU u) false) ∧ Fr base b w w' := by
  have hok := may_ok u hu
  obtain ⟨key, k, n, t⟩ := u
  obtain ⟨k1, k2, hk⟩ := hok
  simp only at k1 k2 hk
  unfold uu
  simp only
  rcases hk with ⟨hk, hn, rfl⟩ | ⟨hk, rfl, ht⟩ | ⟨rfl, rfl, rfl⟩
  · rw [pxU_1 _ _ _ _ hk, ← ByteArray.append_assoc, ← ByteArray.append_assoc]
    rcases hk with rfl | rfl
    · exact wrt_1 base b s key _ n hb hsz (by omega) hn w hd h
    · exact wrt_3 base b s key _ n hb hsz (by omega) hn w hd h
  · rw [pxU_2 _ _ _ _ hk, ← ByteArray.append_assoc, ← ByteArray.append_assoc]
    rcases hk with rfl | rfl
    · exact wrt_2 base b s key t _ hb hsz (by omega) (by omega) w hd h
    · exact wrt_4 base b s key t _ hb hsz (by omega) (by omega) w hd h
  · rw [pxU_5, ← ByteArray.append_assoc]
    exact wrt_5 base b s key _ _ hb hsz (by omega) w hd h
theorem pxU_size (u : Up) (h : mayE u = 0) : (pxU u).size ≤ 100 := by
  obtain ⟨h1, h2, h3⟩ := may_ok u h
  unfold pxU
  have z1 := pxN_size u.2.1
  have z2 := pxT_size u.1 (by omega)
  simp only [ByteArray.size_append]
  have z3 : (pxK u).size ≤ 40 := by
    unfold pxK
    split
    · have := pxS_size u.2.2.1; omega
    · split
      · rename_i ha hb
        have ht : u.2.2.2.size ≤ 32 := by
          rcases h3 with ⟨a, _⟩ | ⟨_, _, c⟩ | ⟨a, _⟩
          · exact absurd a ha
          · exact c
          · omega
        have := pxT_size u.2.2.2 (by omega); omega
      · show 0 ≤ 40; omega
  omega
end Go.Proofs.YtbbgibekplfacaaDoor.X
/- The document's Bytes of an update. -/
namespace Go.Proofs.YtbbgibekplfacaaDoor.X
open Go Go.RowKit
set_option maxHeartbeats 1000000 in
theorem byt_1 (key t : ByteArray) (n : Int) (hkey : key.size ≤ 1000) (w : World) :
    Calls Tryd.prog 83 #[.agg #[.string key, .int .i64 1, .int .i64 n, .string t]] w fun x w' => x = .returned (.string (pxN 1 ++ pxT key ++ pxS n)) ∧ Below w.heap.size w w' := by
  have z1 := pxN_size 1
  have z2 := pxT_size key (by omega)
  have HN := Lib.hid (fun w => rfN_any 1 (by decide) w)
  have HT := Lib.hid (fun w => rfT_any key (by omega) w)
  have z3 := pxS_size n
  have HX := Lib.hid (fun w => rfS_any n w)
  rw [decide_eq_true (show okN 1 by decide)] at HN
  generalize pxN 1 = p1 at *
  generalize pxT key = p2 at *
  generalize pxS n = p3 at *
  generalize decide (okS n) = ok at *
  have y1 : ¬ 9223372036854775807 < p1.size + p2.size := by omega
  have y2 : ¬ 9223372036854775807 < (p1 ++ p2).size + p3.size := by rw [ByteArray.size_append]; omega
  have hu0 := Ub.new w (key, 1, n, t)
  have c1 := hu0.c1
  have c0 := hu0.c0
  have HU0 := Lib.hid hu0
  have HB0 := Lib.hid (Joins.below_alloc1 w (.cells #[.string key, .int .i64 1, .int .i64 n, .string t] 32))
  clear hu0
  go_enter Tryd.func83, Tryd.ntmps83
  go_wp2_with fail
  refine (HN.out _).mono ?_
  rintro x w1 ⟨rfl, hb⟩
  have hu := HU0.out.below hb HU0.out.lt
  have HB1 := Lib.hid (HB0.out.trans (hb.mono HB0.out.size))
  have c0 := hu.c0
  have c1 := hu.c1
  have HU1 := Lib.hid hu
  clear hb hu HB0 HU0
  go_wp2_with fail
  refine (HT.out _).mono ?_
  rintro x w2 ⟨rfl, hb⟩
  have hu := HU1.out.below hb HU1.out.lt
  have HB2 := Lib.hid (HB1.out.trans (hb.mono HB1.out.size))
  have c0 := hu.c0
  have c1 := hu.c1
  have c2 := hu.c2
  have c3 := hu.c3
  have HU2 := Lib.hid hu
  clear hb hu HB1 HU1
  go_wp2_with fail
  refine (HX.out _).mono ?_
  rintro x w3 ⟨rfl, hb⟩
  have hu := HU2.out.below hb HU2.out.lt
  have HB3 := Lib.hid (HB2.out.trans (hb.mono HB2.out.size))
  have c1 := hu.c1
  clear hb hu HB2 HU2
  go_wp2
  go_ret
  exact ⟨rfl, HB3.out⟩
set_option maxHeartbeats 1000000 in
theorem byt_2 (key t : ByteArray) (n : Int) (hkey : key.size ≤ 1000) (hs : t.size ≤ 1000) (w : World) :
    Calls Tryd.prog 83 #[.agg #[.string key, .int .i64 2, .int .i64 n, .string t]] w fun x w' => x = .returned (.string (pxN 2 ++ pxT key ++ pxT t)) ∧ Below w.heap.size w w' := by
  have z1 := pxN_size 2
  have z2 := pxT_size key (by omega)
  have HN := Lib.hid (fun w => rfN_any 2 (by decide) w)
  have HT := Lib.hid (fun w => rfT_any key (by omega) w)
  have z3 := pxT_size t (by omega)
  have HX := Lib.hid (fun w => rfT_any t (by omega) w)
  rw [decide_eq_true (show okN 2 by decide)] at HN
  generalize pxN 2 = p1 at *
  generalize pxT key = p2 at *
  generalize pxT t = p3 at *
  have y1 : ¬ 9223372036854775807 < p1.size + p2.size := by omega
  have y2 : ¬ 9223372036854775807 < (p1 ++ p2).size + p3.size := by rw [ByteArray.size_append]; omega
  have hu0 := Ub.new w (key, 2, n, t)
  have c1 := hu0.c1
  have c0 := hu0.c0
  have HU0 := Lib.hid hu0
  have HB0 := Lib.hid (Joins.below_alloc1 w (.cells #[.string key, .int .i64 2, .int .i64 n, .string t] 32))
  clear hu0
  go_enter Tryd.func83, Tryd.ntmps83
  go_wp2_with fail
  refine (HN.out _).mono ?_
  rintro x w1 ⟨rfl, hb⟩
  have hu := HU0.out.below hb HU0.out.lt
  have HB1 := Lib.hid (HB0.out.trans (hb.mono HB0.out.size))
  have c0 := hu.c0
  have c1 := hu.c1
  have HU1 := Lib.hid hu
  clear hb hu HB0 HU0
  go_wp2_with fail
  refine (HT.out _).mono ?_
  rintro x w2 ⟨rfl, hb⟩
  have hu := HU1.out.below hb HU1.out.lt
  have HB2 := Lib.hid (HB1.out.trans (hb.mono HB1.out.size))
  have c0 := hu.c0
  have c1 := hu.c1
  have c2 := hu.c2
  have c3 := hu.c3
  have HU2 := Lib.hid hu
  clear hb hu HB1 HU1
  go_wp2_with fail
  refine (HX.out _).mono ?_
  rintro x w3 ⟨rfl, hb⟩
  have hu := HU2.out.below hb HU2.out.lt
  have HB3 := Lib.hid (HB2.out.trans (hb.mono HB2.out.size))
  have c1 := hu.c1
  clear hb hu HB2 HU2
  go_wp2
  go_ret
  exact ⟨rfl, HB3.out⟩
set_option maxHeartbeats 1000000 in
theorem byt_3 (key t : ByteArray) (n : Int) (hkey : key.size ≤ 1000) (w : World) :
    Calls Tryd.prog 83 #[.agg #[.string key, .int .i64 3, .int .i64 n, .string t]] w fun x w' => x = .returned (.string (pxN 3 ++ pxT key ++ pxS n)) ∧ Below w.heap.size w w' := by
  have z1 := pxN_size 3
  have z2 := pxT_size key (by omega)
  have HN := Lib.hid (fun w => rfN_any 3 (by decide) w)
  have HT := Lib.hid (fun w => rfT_any key (by omega) w)
  have z3 := pxS_size n
  have HX := Lib.hid (fun w => rfS_any n w)
  rw [decide_eq_true (show okN 3 by decide)] at HN
  generalize pxN 3 = p1 at *
  generalize pxT key = p2 at *
  generalize pxS n = p3 at *
  generalize decide (okS n) = ok at *
  have y1 : ¬ 9223372036854775807 < p1.size + p2.size := by omega
  have y2 : ¬ 9223372036854775807 < (p1 ++ p2).size + p3.size := by rw [ByteArray.size_append]; omega
  have hu0 := Ub.new w (key, 3, n, t)
  have c1 := hu0.c1
  have c0 := hu0.c0
  have HU0 := Lib.hid hu0
  have HB0 := Lib.hid (Joins.below_alloc1 w (.cells #[.string key, .int .i64 3, .int .i64 n, .string t] 32))
  clear hu0
  go_enter Tryd.func83, Tryd.ntmps83
  go_wp2_with fail
  refine (HN.out _).mono ?_
  rintro x w1 ⟨rfl, hb⟩
  have hu := HU0.out.below hb HU0.out.lt
  have HB1 := Lib.hid (HB0.out.trans (hb.mono HB0.out.size))
  have c0 := hu.c0
  have c1 := hu.c1
  have HU1 := Lib.hid hu
  clear hb hu HB0 HU0
  go_wp2_with fail
  refine (HT.out _).mono ?_
  rintro x w2 ⟨rfl, hb⟩
  have hu := HU1.out.below hb HU1.out.lt
  have HB2 := Lib.hid (HB1.out.trans (hb.mono HB1.out.size))
  have c0 := hu.c0
  have c1 := hu.c1
  have c2 := hu.c2
  have c3 := hu.c3
  have HU2 := Lib.hid hu
  clear hb hu HB1 HU1
  go_wp2_with fail
  refine (HX.out _).mono ?_
  rintro x w3 ⟨rfl, hb⟩
  have hu := HU2.out.below hb HU2.out.lt
  have HB3 := Lib.hid (HB2.out.trans (hb.mono HB2.out.size))
  have c1 := hu.c1
  clear hb hu HB2 HU2
  go_wp2
  go_ret
  exact ⟨rfl, HB3.out⟩
set_option maxHeartbeats 1000000 in
theorem byt_4 (key t : ByteArray) (n : Int) (hkey : key.size ≤ 1000) (hs : t.size ≤ 1000) (w : World) :
    Calls Tryd.prog 83 #[.agg #[.string key, .int .i64 4, .int .i64 n, .string t]] w fun x w' => x = .returned (.string (pxN 4 ++ pxT key ++ pxT t)) ∧ Below w.heap.size w w' := by
  have z1 := pxN_size 4
  have z2 := pxT_size key (by omega)
  have HN := Lib.hid (fun w => rfN_any 4 (by decide) w)
  have HT := Lib.hid (fun w => rfT_any key (by omega) w)
  have z3 := pxT_size t (by omega)
  have HX := Lib.hid (fun w => rfT_any t (by omega) w)
  rw [decide_eq_true (show okN 4 by decide)] at HN
  generalize pxN 4 = p1 at *
  generalize pxT key = p2 at *
  generalize pxT t = p3 at *
  have y1 : ¬ 9223372036854775807 < p1.size + p2.size := by omega
  have y2 : ¬ 9223372036854775807 < (p1 ++ p2).size + p3.size := by rw [ByteArray.size_append]; omega
  have hu0 := Ub.new w (key, 4, n, t)
  have c1 := hu0.c1
  have c0 := hu0.c0
  have HU0 := Lib.hid hu0
  have HB0 := Lib.hid (Joins.below_alloc1 w (.cells #[.string key, .int .i64 4, .int .i64 n, .string t] 32))
  clear hu0
  go_enter Tryd.func83, Tryd.ntmps83
  go_wp2_with fail
  refine (HN.out _).mono ?_
  rintro x w1 ⟨rfl, hb⟩
  have hu := HU0.out.below hb HU0.out.lt
  have HB1 := Lib.hid (HB0.out.trans (hb.mono HB0.out.size))
  have c0 := hu.c0
  have c1 := hu.c1
  have HU1 := Lib.hid hu
  clear hb hu HB0 HU0
  go_wp2_with fail
  refine (HT.out _).mono ?_
  rintro x w2 ⟨rfl, hb⟩
  have hu := HU1.out.below hb HU1.out.lt
  have HB2 := Lib.hid (HB1.out.trans (hb.mono HB1.out.size))
  have c0 := hu.c0
  have c1 := hu.c1
  have c2 := hu.c2
  have c3 := hu.c3
  have HU2 := Lib.hid hu
  clear hb hu HB1 HU1
  go_wp2_with fail
  refine (HX.out _).mono ?_
  rintro x w3 ⟨rfl, hb⟩
  have hu := HU2.out.below hb HU2.out.lt
  have HB3 := Lib.hid (HB2.out.trans (hb.mono HB2.out.size))
  have c1 := hu.c1
  clear hb hu HB2 HU2
  go_wp2
  go_ret
  exact ⟨rfl, HB3.out⟩
set_option maxHeartbeats 1000000 in
theorem byt_5 (key t : ByteArray) (n : Int) (hkey : key.size ≤ 1000) (w : World) :
    Calls Tryd.prog 83 #[.agg #[.string key, .int .i64 5, .int .i64 n, .string t]] w fun x w' => x = .returned (.string (pxN 5 ++ pxT key)) ∧ Below w.heap.size w w' := by
  have z1 := pxN_size 5
  have z2 := pxT_size key (by omega)
  have HN := Lib.hid (fun w => rfN_any 5 (by decide) w)
  have HT := Lib.hid (fun w => rfT_any key (by omega) w)
  rw [decide_eq_true (show okN 5 by decide)] at HN
  generalize pxN 5 = p1 at *
  generalize pxT key = p2 at *
  have y1 : ¬ 9223372036854775807 < p1.size + p2.size := by omega
  have hu0 := Ub.new w (key, 5, n, t)
  have c1 := hu0.c1
  have c0 := hu0.c0
  have HU0 := Lib.hid hu0
  have HB0 := Lib.hid (Joins.below_alloc1 w (.cells #[.string key, .int .i64 5, .int .i64 n, .string t] 32))
  clear hu0
  go_enter Tryd.func83, Tryd.ntmps83
  go_wp2_with fail
  refine (HN.out _).mono ?_
  rintro x w1 ⟨rfl, hb⟩
  have hu := HU0.out.below hb HU0.out.lt
  have HB1 := Lib.hid (HB0.out.trans (hb.mono HB0.out.size))
  have c0 := hu.c0
  have c1 := hu.c1
  have HU1 := Lib.hid hu
  clear hb hu HB0 HU0
  go_wp2_with fail
  refine (HT.out _).mono ?_
  rintro x w2 ⟨rfl, hb⟩
  have hu := HU1.out.below hb HU1.out.lt
  have HB2 := Lib.hid (HB1.out.trans (hb.mono HB1.out.size))
  have c0 := hu.c0
  have c1 := hu.c1
  have c2 := hu.c2
  have c3 := hu.c3
  have HU2 := Lib.hid hu
  clear hb hu HB1 HU1
  go_wp2
  go_ret
  exact ⟨rfl, HB2.out⟩
theorem byt_any (u : Up) (hu : mayE u = 0) (w : World) :
    Calls Tryd.prog 83 #[uu u] w fun x w' => x = .returned (.string (pxU u)) ∧ Below w.heap.size w w' := by
  have hok := may_ok u hu
  obtain ⟨key, k, n, t⟩ := u
  obtain ⟨k1, k2, hk⟩ := hok
  simp only at k1 k2 hk
  unfold uu
  simp only
  rcases hk with ⟨hk, hn, rfl⟩ | ⟨hk, rfl, ht⟩ | ⟨rfl, rfl, rfl⟩
  · rw [pxU_1 _ _ _ _ hk]
    rcases hk with rfl | rfl
    · exact byt_1 key _ n (by omega) w
    · exact byt_3 key _ n (by omega) w
  · rw [pxU_2 _ _ _ _ hk]
    rcases hk with rfl | rfl
    · exact byt_2 key t _ (by omega) (by omega) w
    · exact byt_4 key t _ (by omega) (by omega) w
  · rw [pxU_5]
    exact byt_5 key _ _ (by omega) w
end Go.Proofs.YtbbgibekplfacaaDoor.X
/- Plain mathematics: updates that are put and read, read and put. -/
namespace Go.Proofs.YtbbgibekplfacaaDoor.X
open Go
theorem ext_join (B : ByteArray) (i j k : Nat) (h1 : i ≤ j) (h2 : j ≤ k) (h3 : k ≤ B.size) : B.extract i j ++ B.extract j k = B.extract i k := by
  apply eq_of_byt
  · simp only [ByteArray.size_append, ByteArray.size_extract]; omega
  · intro p hp
    have hp' : p < k - i := by simp only [ByteArray.size_append, ByteArray.size_extract] at hp; omega
    have hs : (B.extract i j).size = j - i := by simp only [ByteArray.size_extract]; omega
    rw [byt_extract B i k p h3 hp']
    rcases Nat.lt_or_ge p (j - i) with hq | hq
    · rw [byt_left _ _ _ (by omega), byt_extract B i j p (by omega) hq]
    · obtain ⟨q, rfl⟩ : ∃ q, p = (B.extract i j).size + q := ⟨p - (j - i), by omega⟩
      rw [byt_right _ _ _ (by simp only [ByteArray.size_extract]; omega), byt_extract B j k q h3 (by omega), hs]
      congr 1
      omega
theorem ext_all (B : ByteArray) : B.extract 0 B.size = B := by
  apply eq_of_byt
  · simp
  · intro p hp
    have hp' : p < B.size := by simp at hp; omega
    rw [byt_extract B 0 B.size p (Nat.le_refl _) (by omega), Nat.zero_add]
/-- What was put is got. -/
theorem pxN_put (n : Int) (h : okN n) : pxN n = strOfNums (putS n) := if_pos h
theorem pxS_put (n : Int) (h : okS n) : pxS n = strOfNums (putS (zigS n)) := if_pos h
theorem bd16 : bd 16 = 16 := by decide
theorem bd32 : bd 32 = 32 := by decide
theorem rd_u (x y : ByteArray) (u : Up) (hu : mayE u = 0) : updR (x ++ pxU u ++ y) x.size 0 = (u, x.size + (pxU u).size, 0) := by
  obtain ⟨key, k, n, t⟩ := u
  obtain ⟨k1, k2, hk⟩ := may_ok _ hu
  simp only at k1 k2 hk
  have hkN : okN k := by unfold okN; omega
  have hkb : 1 ≤ k ∧ k ≤ 5 := by omega
  have hsz : (pxU (key, k, n, t)).size = (pxN k).size + (pxT key).size + (pxK (key, k, n, t)).size := by unfold pxU; simp only [ByteArray.size_append]
  have hB1 : x ++ pxU (key, k, n, t) ++ y = x ++ strOfNums (putS k) ++ (pxT key ++ pxK (key, k, n, t) ++ y) := by
    unfold pxU; simp only [pxN_put k hkN, ByteArray.append_assoc]
  have hB2 : x ++ pxU (key, k, n, t) ++ y = (x ++ pxN k) ++ pxT key ++ (pxK (key, k, n, t) ++ y) := by
    unfold pxU; simp only [ByteArray.append_assoc]
  have hB3 : x ++ pxU (key, k, n, t) ++ y = (x ++ pxN k ++ pxT key) ++ pxK (key, k, n, t) ++ y := by
    unfold pxU; simp only [ByteArray.append_assoc]
  have hs1 : x.size ≤ (x ++ pxU (key, k, n, t) ++ y).size := by simp only [ByteArray.size_append]; omega
  obtain ⟨r1, r2, r3⟩ := rd_raw x (pxT key ++ pxK (key, k, n, t) ++ y) k hkN
  rw [← hB1] at r1 r2 r3
  rw [← pxN_put k hkN] at r2
  obtain ⟨n1, n2⟩ := (num_of _ x.size 5 _ hs1 r1 r3).1 (by rw [bd5]; omega)
  obtain ⟨t1, t2, t3⟩ := rd_txt (x ++ pxN k) (pxK (key, k, n, t) ++ y) key 16 (by omega) (by rw [bd16]; omega)
  rw [← hB2, show (x ++ pxN k).size = x.size + (pxN k).size from ByteArray.size_append] at t1 t2 t3
  have hz : (x ++ pxN k ++ pxT key).size = x.size + (pxN k).size + (pxT key).size := by simp only [ByteArray.size_append]
  rcases hk with ⟨hk, hn, rfl⟩ | ⟨hk, rfl, ht⟩ | ⟨rfl, rfl, rfl⟩
  · have e3 : pxK (key, k, n, ⟨#[]⟩) = strOfNums (putS (zigS n)) := by unfold pxK; simp only; rw [if_pos hk, pxS_put n hn]
    obtain ⟨q1, q2, q3⟩ := rd_raw (x ++ pxN k ++ pxT key) y (zigS n) (zig_bd n hn)
    rw [← e3, ← hB3, hz] at q1 q2 q3
    have hc := UpdC.f (B := x ++ pxU (key, k, n, ⟨#[]⟩) ++ y) (At := x.size) (E := 0) _ _ r2 t2 k hk n2 n1 t3 key t1 (by omega) q3
    rw [updR_of hc]
    have es : sgnV (x ++ pxU (key, k, n, ⟨#[]⟩) ++ y) (x.size + (pxN k).size + (pxT key).size) 0 = n := by
      unfold sgnV; rw [if_neg (by simp [q3]), q1, zag_zig]
    rw [es, q2, hsz]
    simp only [Nat.add_assoc]
  · have e3 : pxK (key, k, 0, t) = pxT t := by unfold pxK; simp only; rw [if_neg (by omega), if_pos hk]
    obtain ⟨q1, q2, q3⟩ := rd_txt (x ++ pxN k ++ pxT key) y t 32 (by omega) (by rw [bd32]; omega)
    rw [← e3, ← hB3, hz] at q1 q2 q3
    have hc := UpdC.h (B := x ++ pxU (key, k, 0, t) ++ y) (At := x.size) (E := 0) _ _ r2 t2 k hk n2 n1 t3 key t1 (by omega) q3
    rw [updR_of hc, q1, q2, hsz]
    simp only [Nat.add_assoc]
  · have e3 : (pxK (key, 5, 0, ⟨#[]⟩)).size = 0 := rfl
    have hc := UpdC.i (B := x ++ pxU (key, 5, 0, ⟨#[]⟩) ++ y) (At := x.size) (E := 0) _ _ r2 t2 n2 n1 t3 key t1 (by omega)
    rw [updR_of hc, hsz, e3]
    simp only [Nat.add_assoc, Nat.add_zero]
theorem upd_back (u : Up) (hu : mayE u = 0) : updR (pxU u) 0 0 = (u, (pxU u).size, 0) := by
  have h := rd_u ⟨#[]⟩ ⟨#[]⟩ u hu
  rw [emp_app, app_empty] at h
  rw [show (⟨#[]⟩ : ByteArray).size = 0 from rfl, Nat.zero_add] at h
  exact h
theorem putS_one (n : Int) (_h0 : 0 ≤ n) (h : n < 64) : (putS n).length = 1 := by
  unfold putS
  rw [if_pos h]
  rfl
theorem pxN_one (n : Int) (h0 : 0 ≤ n) (h : n < 64) : (pxN n).size = 1 := by
  rw [pxN_put n (by unfold okN; omega), strOfNums_size, putS_one n h0 h]
theorem pxT_one (t : ByteArray) (h : t.size < 64) : (pxT t).size = 1 + t.size := by
  unfold pxT
  rw [ByteArray.size_append, strOfNums_size, putS_one _ (by omega) (by omega)]
theorem pxU_52 (u : Up) (hu : mayE u = 0) : (pxU u).size ≤ 52 := by
  obtain ⟨h1, h2, h3⟩ := may_ok u hu
  unfold pxU
  simp only [ByteArray.size_append]
  rw [pxN_one _ (by omega) (by omega), pxT_one _ (by omega)]
  have z3 : (pxK u).size ≤ 33 := by
    unfold pxK
    split
    · have := pxS_size u.2.2.1; omega
    · split
      · rename_i ha hb
        have ht : u.2.2.2.size ≤ 32 := by
          rcases h3 with ⟨a, _⟩ | ⟨_, _, c⟩ | ⟨a, _⟩
          · exact absurd a ha
          · exact c
          · omega
        rw [pxT_one _ (by omega)]; omega
      · show 0 ≤ 33; omega
  omega
/-- What is got is put as it was. -/
theorem got_raw (B : ByteArray) (At : Nat) (hA : At ≤ B.size) (h : rawE B At 0 = 0) : okN (rawV B At 0) ∧ strOfNums (putS (rawV B At 0)) = B.extract At (rawA B At 0) ∧ At ≤ rawA B At 0 ∧ rawA B At 0 ≤ B.size := by
  rcases raw3 B At 0 hA with ⟨h0, _⟩ | ⟨_, e, he, _, _, _, _, _, _, hEE⟩ | ⟨_, N, W, h1, h2, h3, h4, h5, _, hg, _, hV, hAA, _⟩
  · exact absurd rfl h0
  · omega
  · rw [hV, hAA]
    refine ⟨⟨h4, h5⟩, ?_, by omega, h3⟩
    obtain ⟨W', _, _, _, _, hw, hp⟩ := putS_got (B.extract At B.size) (by rw [hg])
    rw [hg] at hw hp
    simp only at hw hp
    obtain rfl : W = W' := by omega
    rw [hp, rst_text B At W h3]
theorem got_num (B : ByteArray) (At : Nat) (m : Int) (hA : At ≤ B.size) (h : numE B At 0 m = 0) : rawE B At 0 = 0 ∧ numV B At 0 m = rawV B At 0 ∧ rawV B At 0 ≤ bd m := by
  rcases num3 B At 0 m hA with ⟨h1, _, _, h4⟩ | ⟨_, _, _, h4⟩ | ⟨h1, h2, h3, _⟩
  · rw [h4] at h; exact absurd h h1
  · omega
  · exact ⟨h1, h3, h2⟩
theorem got_txt (B : ByteArray) (At : Nat) (m : Int) (hA : At ≤ B.size) (h : txtE B At 0 m = 0) : pxT (txtV B At 0 m) = B.extract At (txtA B At 0 m) ∧ ((txtV B At 0 m).size : Int) ≤ bd m ∧ At ≤ txtA B At 0 m ∧ txtA B At 0 m ≤ B.size := by
  rcases txt3 B At 0 m hA with ⟨h1, _, h3, _⟩ | ⟨_, _, h3, _⟩ | ⟨h1, n, h2, h3, h4, h5, h6⟩
  · rw [h3] at h; exact absurd h h1
  · omega
  · obtain ⟨r1, r2, r3⟩ := got_num B At m hA h1
    obtain ⟨_, q2, q3, q4⟩ := got_raw B At hA r1
    have hs : (txtV B At 0 m).size = n := by rw [h6]; simp only [ByteArray.size_extract]; omega
    refine ⟨?_, by rw [hs, ← h2, r2]; exact r3, by omega, by omega⟩
    unfold pxT
    rw [hs, ← h2, r2, q2, h6, h5]
    exact ext_join B _ _ _ q3 (by omega) h3
theorem zig_zag (v : Int) (h0 : 0 ≤ v) : zigS (zagS v) = v := by
  unfold zagS zigS
  split <;> split <;> omega
theorem zag_ok (v : Int) (h0 : 0 ≤ v) (h1 : v < 4611686018427387904) : okS (zagS v) := by
  unfold zagS okS
  split <;> omega
theorem got_sgn (B : ByteArray) (At : Nat) (hA : At ≤ B.size) (h : rawE B At 0 = 0) : okS (sgnV B At 0) ∧ pxS (sgnV B At 0) = B.extract At (rawA B At 0) ∧ At ≤ rawA B At 0 ∧ rawA B At 0 ≤ B.size := by
  obtain ⟨q1, q2, q3, q4⟩ := got_raw B At hA h
  have e : sgnV B At 0 = zagS (rawV B At 0) := by unfold sgnV; rw [if_neg (by simp [h])]
  have ho := zag_ok _ q1.1 q1.2
  rw [e]
  exact ⟨ho, by rw [pxS_put _ ho, zig_zag _ q1.1, q2], q3, q4⟩
theorem got_upd (B : ByteArray) (At : Nat) (hA : At ≤ B.size) (u : Up) (A : Nat) (h : updR B At 0 = (u, A, 0)) : mayE u = 0 ∧ pxU u = B.extract At A ∧ At ≤ A ∧ A ≤ B.size := by
  have hc := updC B At 0 hA
  rw [h] at hc
  have key : ∀ A1 A2 k y, rawA B At 0 = A1 → txtA B A1 0 16 = A2 → numE B At 0 5 = 0 → numV B At 0 5 = k → txtE B A1 0 16 = 0 → txtV B A1 0 16 = y → pxN k ++ pxT y = B.extract At A2 ∧ y.size ≤ 16 ∧ At ≤ A2 ∧ A2 ≤ B.size := by
    rintro A1 A2 k y rfl rfl h1 rfl h3 rfl
    obtain ⟨r1, r2, _⟩ := got_num B At 5 hA h1
    obtain ⟨q1, q2, q3, q4⟩ := got_raw B At hA r1
    obtain ⟨t1, t2, t3, t4⟩ := got_txt B _ 16 q4 h3
    rw [bd16] at t2
    refine ⟨?_, by omega, by omega, t4⟩
    rw [r2, pxN_put _ q1, q2, t1]
    exact ext_join B _ _ _ q3 t3 t4
  generalize hr : (u, A, (0 : Int)) = r at hc
  cases hc with
  | a h1 => exact absurd (Prod.mk.inj (Prod.mk.inj hr).2).2.symm h1
  | b => exact absurd (Prod.mk.inj (Prod.mk.inj hr).2).2 (by decide)
  | c A1 e1 k hk h1 h2 h3 => exact absurd (Prod.mk.inj (Prod.mk.inj hr).2).2.symm h3
  | d => exact absurd (Prod.mk.inj (Prod.mk.inj hr).2).2 (by decide)
  | e A1 A2 e1 e2 k hk h1 h2 h3 y h4 hy h5 => exact absurd (Prod.mk.inj (Prod.mk.inj hr).2).2.symm h5
  | g A1 A2 e1 e2 k hk h1 h2 h3 y h4 hy h5 => exact absurd (Prod.mk.inj (Prod.mk.inj hr).2).2.symm h5
  | f A1 A2 e1 e2 k hk h1 h2 h3 y h4 hy h5 =>
    obtain ⟨rfl, hr2⟩ := Prod.mk.inj hr
    obtain ⟨rfl, _⟩ := Prod.mk.inj hr2
    obtain ⟨a1, a2, a3, a4⟩ := key A1 A2 k y e1 e2 h1 h2 h3 h4
    obtain ⟨s1, s2, s3, s4⟩ := got_sgn B A2 a4 h5
    refine ⟨ok_may _ (by show 1 ≤ y.size; omega) a2 (.inl ⟨hk, s1, rfl⟩), ?_, by omega, s4⟩
    rw [pxU_1 _ _ _ _ hk, a1, s2]
    exact ext_join B _ _ _ a3 s3 s4
  | h A1 A2 e1 e2 k hk h1 h2 h3 y h4 hy h5 =>
    obtain ⟨rfl, hr2⟩ := Prod.mk.inj hr
    obtain ⟨rfl, _⟩ := Prod.mk.inj hr2
    obtain ⟨a1, a2, a3, a4⟩ := key A1 A2 k y e1 e2 h1 h2 h3 h4
    obtain ⟨s1, s2, s3, s4⟩ := got_txt B A2 32 a4 h5
    rw [bd32] at s2
    refine ⟨ok_may _ (by show 1 ≤ y.size; omega) a2 (.inr (.inl ⟨hk, rfl, by show (txtV B A2 0 32).size ≤ 32; omega⟩)), ?_, by omega, s4⟩
    rw [pxU_2 _ _ _ _ hk, a1, s1]
    exact ext_join B _ _ _ a3 s3 s4
  | i A1 A2 e1 e2 h1 h2 h3 y h4 hy =>
    obtain ⟨rfl, hr2⟩ := Prod.mk.inj hr
    obtain ⟨rfl, _⟩ := Prod.mk.inj hr2
    obtain ⟨a1, a2, a3, a4⟩ := key A1 A 5 y e1 e2 h1 h2 h3 h4
    exact ⟨ok_may _ (by show 1 ≤ y.size; omega) a2 (.inr (.inr ⟨rfl, rfl, rfl⟩)), by rw [pxU_5, a1], a3, a4⟩
end Go.Proofs.YtbbgibekplfacaaDoor.X
/- Plain mathematics: what is read of bytes that are cut. -/
namespace Go.Proofs.YtbbgibekplfacaaDoor.X
open Go
theorem un_front (B : ByteArray) (c a : Nat) (hc : c ≤ B.size) : ∀ k, a + k ≤ c → un (B.extract 0 c) a k = un B a k
  | 0, _ => rfl
  | 1, h => by simp only [un]; rw [byt_extract B 0 c a hc (by omega), Nat.zero_add]
  | k + 2, h => by
    simp only [un]
    rw [un_front B c a hc (k + 1) (by omega), byt_extract B 0 c (a + (k + 1)) hc (by omega), Nat.zero_add]
theorem getS_at (B : ByteArray) (At : Nat) (h : At ≤ B.size) : getS B At = if B.size < At + wid (byt B At) then (0, 0, 2) else if un B At (wid (byt B At)) < lo (wid (byt B At)) then (0, 0, 3) else (un B At (wid (byt B At)), (At : Int) + wid (byt B At), 0) := by
  unfold getS
  rw [if_neg (by omega)]
  rfl
theorem cut_size (B : ByteArray) (c : Nat) (hc : c ≤ B.size) : (B.extract 0 c).size = c := by simp only [ByteArray.size_extract]; omega
theorem cut_raw (B : ByteArray) (c At : Nat) (hA : At ≤ c) (hc : c ≤ B.size) (hE : rawE B At 0 = 0) :
    (rawA B At 0 ≤ c ∧ rawV (B.extract 0 c) At 0 = rawV B At 0 ∧ rawA (B.extract 0 c) At 0 = rawA B At 0 ∧ rawE (B.extract 0 c) At 0 = 0) ∨ (c < rawA B At 0 ∧ rawE (B.extract 0 c) At 0 = 2) := by
  have hs := cut_size B c hc
  have hw8 : 1 ≤ wid (byt B At) ∧ wid (byt B At) ≤ 8 := by rcases wid_cases (byt B At) with e | e | e | e <;> omega
  have g1 := getS_at B At (by omega)
  have g2 := getS_at (B.extract 0 c) At (by omega)
  rw [hs] at g2
  have hE' : (getS B At).2.2 = 0 := by unfold rawE at hE; rw [if_neg (by simp)] at hE; exact hE
  have n1 : ¬ B.size < At + wid (byt B At) := by
    intro hx; rw [g1, if_pos hx] at hE'; exact absurd hE' (by decide)
  rw [if_neg n1] at g1
  have n2 : ¬ un B At (wid (byt B At)) < lo (wid (byt B At)) := by
    intro hx; rw [g1, if_pos hx] at hE'; exact absurd hE' (by decide)
  rw [if_neg n2] at g1
  have hr1 := raw_ok B At (un B At (wid (byt B At))) (At + wid (byt B At)) (by rw [g1]; simp)
  rw [hr1.2.1, hr1.1]
  rcases Nat.lt_or_ge At c with h1 | h1
  · have hb : byt (B.extract 0 c) At = byt B At := by rw [byt_extract B 0 c At hc (by omega), Nat.zero_add]
    rw [hb] at g2
    rcases Nat.lt_or_ge c (At + wid (byt B At)) with h2 | h2
    · refine .inr ⟨h2, ?_⟩
      rw [if_pos h2] at g2
      exact (raw_err _ _ 2 (by decide) g2).2.2
    · refine .inl ⟨h2, ?_⟩
      rw [if_neg (by omega), un_front B c At hc _ h2, if_neg n2] at g2
      exact raw_ok _ At _ _ (by rw [g2]; simp)
  · obtain rfl : At = c := by omega
    have hb : byt (B.extract 0 At) At = 0 := byt_end _ _ (by omega)
    rw [hb, show wid 0 = 1 from rfl, if_pos (by omega)] at g2
    exact .inr ⟨by omega, (raw_err _ _ 2 (by decide) g2).2.2⟩
theorem cut_num (B : ByteArray) (c At : Nat) (m : Int) (hA : At ≤ c) (hc : c ≤ B.size) (hE : numE B At 0 m = 0) :
    (rawA B At 0 ≤ c ∧ numV (B.extract 0 c) At 0 m = numV B At 0 m ∧ rawA (B.extract 0 c) At 0 = rawA B At 0 ∧ numE (B.extract 0 c) At 0 m = 0) ∨ numE (B.extract 0 c) At 0 m = 2 := by
  have hs := cut_size B c hc
  obtain ⟨r1, r2, r3⟩ := got_num B At m (by omega) hE
  rcases cut_raw B c At hA hc r1 with ⟨h1, h2, h3, h4⟩ | ⟨h1, h2⟩
  · obtain ⟨q1, q2⟩ := (num_of (B.extract 0 c) At m _ (by omega) h2 h4).1 r3
    exact .inl ⟨h1, by rw [q1, r2], h3, q2⟩
  · exact .inr (by unfold numE; rw [h2, if_pos (by decide)])
theorem cut_txt (B : ByteArray) (c At : Nat) (m : Int) (hA : At ≤ c) (hc : c ≤ B.size) (hE : txtE B At 0 m = 0) :
    (txtA B At 0 m ≤ c ∧ txtV (B.extract 0 c) At 0 m = txtV B At 0 m ∧ txtA (B.extract 0 c) At 0 m = txtA B At 0 m ∧ txtE (B.extract 0 c) At 0 m = 0) ∨ txtE (B.extract 0 c) At 0 m = 2 := by
  have hs := cut_size B c hc
  rcases txt3 B At 0 m (by omega) with ⟨h1, _, h3, _⟩ | ⟨_, _, h3, _⟩ | ⟨h1, n, h2, h3, h4, h5, h6⟩
  · rw [h3] at hE; exact absurd hE h1
  · omega
  · rcases cut_num B c At m hA hc h1 with ⟨a1, a2, a3, a4⟩ | a1
    · rcases Nat.lt_or_ge c (rawA B At 0 + n) with hx | hx
      · refine .inr ?_
        unfold txtE
        rw [if_neg (by simp [a4]), a2, a3, h2, hs, if_pos (by omega)]
      · refine .inl ⟨by omega, ?_⟩
        have e1 : txtE (B.extract 0 c) At 0 m = 0 := by
          unfold txtE
          rw [if_neg (by simp [a4]), a2, a3, h2, hs, if_neg (by omega)]
        refine ⟨?_, ?_, e1⟩
        · unfold txtV
          rw [if_neg (by simp [e1]), if_neg (by simp [h4]), a2, a3, h2]
          have e2 : ((n : Int).toNat) = n := by omega
          rw [e2]
          apply eq_of_byt
          · simp only [ByteArray.size_extract]; omega
          · intro i hi
            have hi' : i < n := by simp only [ByteArray.size_extract] at hi; omega
            rw [byt_extract _ _ _ _ (by omega) (by omega), byt_extract _ _ _ _ (by omega) (by omega), byt_extract _ _ _ _ (by omega) (by omega), Nat.zero_add]
        · unfold txtA
          rw [if_neg (by simp [e1]), if_neg (by simp [h4]), a2, a3]
    · exact .inr (by unfold txtE; rw [a1, if_pos (by decide)])
theorem cut_upd (B : ByteArray) (c At : Nat) (hA : At ≤ c) (hc : c ≤ B.size) (u : Up) (A : Nat) (h : updR B At 0 = (u, A, 0)) (hcA : c < A) : (updR (B.extract 0 c) At 0).2.2 = 2 := by
  have hs := cut_size B c hc
  have hcc := updC B At 0 (by omega)
  rw [h] at hcc
  have key : ∀ A1 A2 k y, rawA B At 0 = A1 → txtA B A1 0 16 = A2 → numE B At 0 5 = 0 → 1 ≤ k ∧ k ≤ 5 → numV B At 0 5 = k → txtE B A1 0 16 = 0 → txtV B A1 0 16 = y → (A2 ≤ c ∧ rawA (B.extract 0 c) At 0 = A1 ∧ txtA (B.extract 0 c) A1 0 16 = A2 ∧ numE (B.extract 0 c) At 0 5 = 0 ∧ numV (B.extract 0 c) At 0 5 = k ∧ txtE (B.extract 0 c) A1 0 16 = 0 ∧ txtV (B.extract 0 c) A1 0 16 = y) ∨ (updR (B.extract 0 c) At 0).2.2 = 2 := by
    rintro A1 A2 k y rfl rfl h1 hk rfl h3 rfl
    rcases cut_num B c At 5 hA hc h1 with ⟨a1, a2, a3, a4⟩ | a1
    · rcases cut_txt B c (rawA B At 0) 16 a1 hc h3 with ⟨b1, b2, b3, b4⟩ | b1
      · exact .inl ⟨b1, a3, b3, a4, a2, b4, b2⟩
      · refine .inr ?_
        have hx := UpdC.c (B := B.extract 0 c) (At := At) (E := 0) _ a3 _ hk a4 a2 (by rw [b1]; decide)
        rw [updR_of hx]
        exact b1
    · refine .inr ?_
      have hx := UpdC.a (B := B.extract 0 c) (At := At) (E := 0) (by rw [a1]; decide)
      rw [updR_of hx]
      exact a1
  generalize hr : (u, A, (0 : Int)) = r at hcc
  cases hcc with
  | a h1 => exact absurd (Prod.mk.inj (Prod.mk.inj hr).2).2.symm h1
  | b => exact absurd (Prod.mk.inj (Prod.mk.inj hr).2).2 (by decide)
  | c A1 e1 k hk h1 h2 h3 => exact absurd (Prod.mk.inj (Prod.mk.inj hr).2).2.symm h3
  | d => exact absurd (Prod.mk.inj (Prod.mk.inj hr).2).2 (by decide)
  | e A1 A2 e1 e2 k hk h1 h2 h3 y h4 hy h5 => exact absurd (Prod.mk.inj (Prod.mk.inj hr).2).2.symm h5
  | g A1 A2 e1 e2 k hk h1 h2 h3 y h4 hy h5 => exact absurd (Prod.mk.inj (Prod.mk.inj hr).2).2.symm h5
  | f A1 A2 e1 e2 k hk h1 h2 h3 y h4 hy h5 =>
    obtain ⟨rfl, hr2⟩ := Prod.mk.inj hr
    obtain ⟨rfl, _⟩ := Prod.mk.inj hr2
    rcases key A1 A2 k y e1 e2 h1 (by omega) h2 h3 h4 with ⟨a1, a2, a3, a4, a5, a6, a7⟩ | hx
    · rcases cut_raw B c A2 a1 hc h5 with ⟨b1, _, _, _⟩ | ⟨_, b1⟩
      · omega
      · have hx := UpdC.e (B := B.extract 0 c) (At := At) (E := 0) _ _ a2 a3 k hk a4 a5 a6 y a7 hy (by rw [b1]; decide)
        rw [updR_of hx]
        exact b1
    · exact hx
  | h A1 A2 e1 e2 k hk h1 h2 h3 y h4 hy h5 =>
    obtain ⟨rfl, hr2⟩ := Prod.mk.inj hr
    obtain ⟨rfl, _⟩ := Prod.mk.inj hr2
    rcases key A1 A2 k y e1 e2 h1 (by omega) h2 h3 h4 with ⟨a1, a2, a3, a4, a5, a6, a7⟩ | hx
    · rcases cut_txt B c A2 32 a1 hc h5 with ⟨b1, _, _, _⟩ | b1
      · omega
      · have hx := UpdC.g (B := B.extract 0 c) (At := At) (E := 0) _ _ a2 a3 k hk a4 a5 a6 y a7 hy (by rw [b1]; decide)
        rw [updR_of hx]
        exact b1
    · exact hx
  | i A1 A2 e1 e2 h1 h2 h3 y h4 hy =>
    obtain ⟨rfl, hr2⟩ := Prod.mk.inj hr
    obtain ⟨rfl, _⟩ := Prod.mk.inj hr2
    rcases key A1 A 5 y e1 e2 h1 (by omega) h2 h3 h4 with ⟨a1, _⟩ | hx
    · omega
    · exact hx
end Go.Proofs.YtbbgibekplfacaaDoor.X
