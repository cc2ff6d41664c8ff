import Derived.Test.YtjmkdgjdemndaaaDoorL2
/- The document's sender: New, Offer, Ack, Left. -/
namespace Go.Proofs.YtjmkdgjdemndaaaDoor.K
open Go Go.RowKit
set_option maxRecDepth 20000
/-- In block b lies the document's sender: all data in the slice v, that of pre acknowledged. -/
structure Dm (B : Nat) (w : World) (b : Nat) (v : Value) (win last : Int) (pre ds : List ByteArray) : Prop where
  lo : B ≤ b
  blk : w.heap[b]? = some (.cells #[.int .i64 win, .int .i64 last, v, .int .i64 (pre.length : Int)] 100 (0, 0))
  row : RowS B w v (pre ++ ds)
  ok : Ok win last pre.length ds
section
variable {B b : Nat} {v : Value} {win last : Int} {pre ds : List ByteArray} {w w' : World}
theorem Dm.c0 (h : Dm B w b v win last pre ds) : w.cell? ⟨b, 0, none⟩ = some (.int .i64 win) := cell_at h.blk 0 _ rfl
theorem Dm.c1 (h : Dm B w b v win last pre ds) : w.cell? ⟨b, 1, none⟩ = some (.int .i64 last) := cell_at h.blk 1 _ rfl
theorem Dm.c2 (h : Dm B w b v win last pre ds) : w.cell? ⟨b, 2, none⟩ = some v := cell_at h.blk 2 _ rfl
theorem Dm.c3 (h : Dm B w b v win last pre ds) : w.cell? ⟨b, 3, none⟩ = some (.int .i64 (pre.length : Int)) := cell_at h.blk 3 _ rfl
theorem Dm.f0 (h : Dm B w b v win last pre ds) (i : Nat) : w.frozen? ⟨b, i, none⟩ = false := by have := h.blk; simp [World.frozen?, this]
theorem Dm.lt (h : Dm B w b v win last pre ds) : b < w.heap.size := (Array.getElem?_eq_some_iff.1 h.blk).1
theorem RowS.same {l : List ByteArray} (h : RowS B w v l) (hv : ∀ j, v.ownBlock = some j → w'.heap[j]? = w.heap[j]?) : RowS B w' v l := by
  obtain ⟨h1, h2⟩ := h
  refine ⟨h1, ?_⟩
  rcases h2 with h2 | ⟨g, cap, cur, rfl, hb, hg, r⟩
  · exact .inl h2
  · exact .inr ⟨g, cap, cur, rfl, hb, (hv g rfl).trans hg, r⟩
theorem RowS.lower {B' : Nat} {l : List ByteArray} (h : RowS B w v l) (hB : B' ≤ B) : RowS B' w v l := by
  obtain ⟨h1, h2⟩ := h
  refine ⟨h1, ?_⟩
  rcases h2 with h0 | ⟨g, cap, cur, e, hb, r⟩
  · exact .inl h0
  · exact .inr ⟨g, cap, cur, e, by omega, r⟩
theorem Dm.same (h : Dm B w b v win last pre ds) (hb : w'.heap[b]? = w.heap[b]?) (hv : ∀ j, v.ownBlock = some j → w'.heap[j]? = w.heap[j]?) : Dm B w' b v win last pre ds := ⟨h.lo, hb.trans h.blk, h.row.same hv, h.ok⟩
theorem Dm.next (h : Dm B w b v win last pre ds) (hb : Below w.heap.size w w') : Dm B w' b v win last pre ds := h.same (hb.block b h.lt) (fun j hj => hb.block j (h.row.lt j hj).2)
theorem Dm.asit (h : Dm B w b v win last pre ds) (e : w'.heap = w.heap) : Dm B w' b v win last pre ds := h.same (by rw [e]) (fun j _ => by rw [e])
theorem Dm.rowb (h : Dm B w b v win last pre ds) : v.ownBlock ≠ some b := fun e => by
  obtain ⟨cur, hc⟩ := h.row.typ b e
  exact two_types h.blk hc (by decide) rfl
end
set_option maxHeartbeats 400000 in
theorem dnew_any (a c : Int) (w : World) : Calls Tryd.prog 56 #[.int .i64 a, .int .i64 c] w fun x w' => x = .returned (.pointer (some ⟨w.heap.size, 0, none⟩)) ∧ Dm w.heap.size w' w.heap.size (.slice none 0 0) (winOf a) (lastOf c) [] [] ∧ Below w.heap.size w w' := by
  have HO := Lib.hid (ok_new a c)
  have H1 := fun w => Lib.hid (clamp_any a 1 16 (by omega) w)
  have H2 := fun w => Lib.hid (clamp_any c 0 1125899906842624 (by omega) w)
  unfold winOf lastOf at *
  generalize min (max a 1) 16 = p at *
  generalize min (max c 0) 1125899906842624 = q at *
  go_enter Tryd.func56, Tryd.ntmps56
  go_wp2_with fail
  refine (H1 _).out.mono ?_
  rintro x w1 ⟨rfl, rfl⟩
  go_wp2_with fail
  refine (H2 _).out.mono ?_
  rintro x w1 ⟨rfl, rfl⟩
  go_wp2
  go_ret
  exact ⟨rfl, ⟨Nat.le_refl _, heap_alloc_new _ _, rowS_nil _ _, HO.out⟩, Joins.below_alloc1 _ _⟩
section
variable {B b : Nat} {v : Value} {win last : Int} {pre ds : List ByteArray}
theorem sub_pre (h : Ok win last pre.length ds) : IntKind.i64.wrap (((pre ++ ds).length : Int) - (pre.length : Int)) = (ds.length : Int) := by
  have := h.len
  have := h.w2
  rw [List.length_append, show ((pre.length + ds.length : Nat) : Int) - (pre.length : Int) = (ds.length : Int) by omega]
  exact i64_id (by omega) (by omega)
set_option maxHeartbeats 1000000 in
theorem doff_full (x : ByteArray) (h1 : win ≤ (ds.length : Int)) (w : World) (h : Dm B w b v win last pre ds) :
    Calls Tryd.prog 37 #[.pointer (some ⟨b, 0, none⟩), .string x] w fun e w' => e = .returned (.tuple #[.int .i64 0, .int .i64 7]) ∧ w'.heap = w.heap ∧ w'.os = w.os ∧ w'.tape = w.tape ∧ w'.output = w.output := by
  obtain ⟨a, c, hv, _⟩ := h.row.is
  subst hv
  have c0 := h.c0
  have c2 := h.c2
  have c3 := h.c3
  have hw := sub_pre h.ok
  clear h
  generalize (pre ++ ds).length = L at *
  generalize (pre.length : Int) = P at *
  go_enter Tryd.func37, Tryd.ntmps37
  go_wp2_with fail
  go_quiet (fail)
  go_wp2
  go_ret2
  exact ⟨rfl, rfl, rfl, rfl, rfl⟩
set_option maxHeartbeats 1000000 in
theorem doff_used (x : ByteArray) (h1 : (ds.length : Int) < win) (h2 : last ≤ ((pre.length + ds.length : Nat) : Int)) (w : World) (h : Dm B w b v win last pre ds) :
    Calls Tryd.prog 37 #[.pointer (some ⟨b, 0, none⟩), .string x] w fun e w' => e = .returned (.tuple #[.int .i64 0, .int .i64 8]) ∧ w'.heap = w.heap ∧ w'.os = w.os ∧ w'.tape = w.tape ∧ w'.output = w.output := by
  obtain ⟨a, c, hv, _⟩ := h.row.is
  subst hv
  have c0 := h.c0
  have c1 := h.c1
  have c2 := h.c2
  have c3 := h.c3
  have hw := sub_pre h.ok
  have k1 : ¬ win ≤ (ds.length : Int) := by omega
  rw [← List.length_append] at h2
  clear h h1
  generalize (pre ++ ds).length = L at *
  generalize (pre.length : Int) = P at *
  go_enter Tryd.func37, Tryd.ntmps37
  go_wp2_with fail
  go_quiet (fail)
  go_wp2_with fail
  go_quiet (fail)
  go_wp2
  go_ret2
  exact ⟨rfl, rfl, rfl, rfl, rfl⟩
theorem doff_fin {w W w3 w5 : World} {a3 a' : Option Addr} {c3 c' : Nat} {x : ByteArray} {xs : List ByteArray} (hx : x.size ≤ 1000) (h : Dm B w b v win last pre ds) (hxs : pre ++ ds = xs) (h1 : (ds.length : Int) < win) (h2 : ((pre.length + ds.length : Nat) : Int) < last)
    (eh : W.heap = w.heap) (eo : W.os = w.os) (et : W.tape = w.tape) (eu : W.output = w.output) (hr3 : RowS W.heap.size w3 (.slice a3 xs.length c3) xs) (hb3 : Below W.heap.size W w3)
    (hr5 : RowS W.heap.size w5 (.slice a' (xs.length + 1) c') (xs ++ [x])) (hg5 : (w3.alloc (.cells #[.string x] 9)).grownBy w5 (Value.slice a3 xs.length c3).ownBlock) :
    w5.cell? ⟨b, 2, none⟩ = some v ∧ w5.frozen? ⟨b, 2, none⟩ = false ∧ (w5.setCell ⟨b, 2, none⟩ (.slice a' (xs.length + 1) c')).cell? ⟨b, 2, none⟩ = some (.slice a' (xs.length + 1) c') ∧ Hid (Dm B (w5.setCell ⟨b, 2, none⟩ (.slice a' (xs.length + 1) c')) b (.slice a' (xs.length + 1) c') win last pre (ds ++ [x]) ∧ w.grownBy (w5.setCell ⟨b, 2, none⟩ (.slice a' (xs.length + 1) c')) (some b) ∧ Nw w v (.slice a' (xs.length + 1) c')) := by
  have hlt := h.lt
  have hlo := h.lo
  have hbel : Below w.heap.size w w5 := by
    have e : Below W.heap.size W w5 := (hb3.alloc hb3.size (.cells #[.string x] 9)).grown hg5 (by have := hb3.size; simp; omega) (fun j hj => (hr3.lt j hj).1)
    exact ⟨e.os.trans eo, e.tape.trans et, e.output.trans eu, by rw [← eh]; exact e.size, fun j hj => by rw [e.block j (by rw [eh]; exact hj), eh]⟩
  have hblk := (hbel.block b hlt).trans h.blk
  have hsz : w.heap.size = W.heap.size := by rw [eh]
  have hnb : (Value.slice a' (xs.length + 1) c').ownBlock ≠ some b := fun e => by have := (hr5.lt b e).1; omega
  refine ⟨cell_at hblk 2 _ rfl, by simp [World.frozen?, hblk], by simp [World.cell?, World.setCell, Array.getElem?_modify, hblk], ⟨⟨hlo, ?_, ?_, h.ok.more x hx h1 h2⟩, ?_, fun j hj => .inr ?_⟩⟩
  · simp [World.setCell, Array.getElem?_modify, hblk]
  · rw [← List.append_assoc, hxs]
    exact (hr5.lower (by omega)).same fun j hj => Below.heap_setCell _ _ _ _ (fun e => hnb (by rw [hj, e]))
  · exact World.grownBy.trans (grownOf (some b) hbel) (grown_set _ _ _ _)
  · rw [hsz]; exact (hr5.lt j hj).1
set_option maxHeartbeats 4000000 in
theorem doff_yes (x : ByteArray) (hx : x.size ≤ 1000) (h1 : (ds.length : Int) < win) (h2 : ((pre.length + ds.length : Nat) : Int) < last) (hbd : pre.length + ds.length ≤ 10000) (w : World) (h : Dm B w b v win last pre ds) :
    Calls Tryd.prog 37 #[.pointer (some ⟨b, 0, none⟩), .string x] w fun e w' => e = .returned (.tuple #[.int .i64 ((pre.length + ds.length + 1 : Nat) : Int), .int .i64 0]) ∧ ∃ v', Dm B w' b v' win last pre (ds ++ [x]) ∧ w.grownBy w' (some b) ∧ Nw w v v' := by
  obtain ⟨a, c, hv, hss, hlc, hnn⟩ := h.row.is
  subst hv
  have c0 := h.c0
  have c1 := h.c1
  have c2 := h.c2
  have c3 := h.c3
  have hw := sub_pre h.ok
  have k1 : ¬ win ≤ (ds.length : Int) := by omega
  have k2 : ¬ last ≤ ((pre ++ ds).length : Int) := by rw [List.length_append]; omega
  have hbd2 : (pre ++ ds).length ≤ 10000 := by rw [List.length_append]; exact hbd
  rw [show pre.length + ds.length + 1 = (pre ++ ds).length + 1 by rw [List.length_append]]
  have H := Lib.hid h
  have H1 := Lib.hid h1
  have H2 := Lib.hid h2
  have HSS := Lib.hid hss
  have HLC := Lib.hid hlc
  have HNN := Lib.hid hnn
  clear h h1 h2 hss hlc hnn hbd
  generalize hxs : pre ++ ds = xs at *
  have HXS := Lib.hid hxs
  clear hxs
  generalize (pre.length : Int) = P at c3 hw
  have tok1 : True := trivial
  have tok2 : True := trivial
  go_enter Tryd.func37, Tryd.ntmps37
  go_wp2_with fail
  go_quiet (fail)
  revert nq
  intro n1
  go_wp2_with fail
  go_quiet (fail)
  have e2 := ((H.out.asit (w' := w.drewN (n1 + nq)) rfl).next (Joins.below_alloc1 _ (.cells #[] 9))).c2
  clear c0 c1 k1
  go_wp2_with (first
    | (at_builtin; have _t := tok1; refine wpList_appS0 (w := w.drewN (n1 + nq)) rfl (.tmp 32) (.tmp 36) rfl rfl a xs.length c rfl xs ⟨HSS.out.size, HSS.out.lies⟩ HLC.out HNN.out (by omega) ?_; intro a3 c3' w3 hr3 hb3; have HR3 := Lib.hid hr3; have HB3 := Lib.hid hb3; clear tok1 hr3 hb3)
    | (at_builtin; have _t := tok2; refine wpList_appS rfl (.tmp 37) (.tmp 39) rfl (w.drewN (n1 + nq)).heap.size _ xs rfl (HR3.out.alloc (.cells #[.string x] 9)) _ 1 1 rfl [x] (ssAt_one w3 x) (Nat.le_refl _) (fun e => by cases e) (by omega) (by have := HB3.out.size; simp at this ⊢; omega) ?_; intro a5 c5 w5 hr5 hg5 _; obtain ⟨d2, f2, g2, HF⟩ := doff_fin hx H.out HXS.out H1.out H2.out (W := w.drewN (n1 + nq)) rfl rfl rfl rfl HR3.out HB3.out hr5 hg5; clear tok2 hr5 hg5))
  go_ret2
  exact ⟨rfl, _, HF.out⟩
end
end Go.Proofs.YtjmkdgjdemndaaaDoor.K
/- The document's sender: Offer, Ack, Left. -/
namespace Go.Proofs.YtjmkdgjdemndaaaDoor.K
open Go Go.RowKit
set_option maxRecDepth 20000
section
variable {B b : Nat} {v : Value} {win last : Int} {pre ds : List ByteArray}
theorem grown_asit {w w' : World} {r : Option Nat} (e : w'.heap = w.heap) (e1 : w'.os = w.os) (e2 : w'.tape = w.tape) (e3 : w'.output = w.output) : w.grownBy w' r := ⟨e1, e2, e3, by rw [e]; exact Nat.le_refl _, fun i _ _ => by rw [e]⟩
theorem doff_any (x : ByteArray) (hx : x.size ≤ 1000) (hbd : pre.length + ds.length ≤ 10000) (w : World) (h : Dm B w b v win last pre ds) :
    Calls Tryd.prog 37 #[.pointer (some ⟨b, 0, none⟩), .string x] w fun e w' => e = .returned (.tuple #[.int .i64 (offN win last pre.length ds), .int .i64 (offE win last pre.length ds)]) ∧ ∃ v', Dm B w' b v' win last pre (offD win last pre.length ds x) ∧ w.grownBy w' (some b) ∧ Nw w v v' := by
  unfold offN offE offD
  by_cases h1 : win ≤ (ds.length : Int)
  · simp only [if_pos h1]
    refine (doff_full x h1 w h).mono ?_
    rintro e w1 ⟨rfl, e1, e2, e3, e4⟩
    exact ⟨rfl, v, h.asit e1, grown_asit e1 e2 e3 e4, Nw.refl _ _⟩
  · simp only [if_neg h1]
    by_cases h2 : last ≤ ((pre.length + ds.length : Nat) : Int)
    · simp only [if_pos h2]
      refine (doff_used x (by omega) h2 w h).mono ?_
      rintro e w1 ⟨rfl, e1, e2, e3, e4⟩
      exact ⟨rfl, v, h.asit e1, grown_asit e1 e2 e3 e4, Nw.refl _ _⟩
    · simp only [if_neg h2]
      exact doff_yes x hx (by omega) (by omega) hbd w h
set_option maxHeartbeats 1000000 in
theorem dack_above (n : Int) (h1 : ((pre.length + ds.length : Nat) : Int) < n) (w : World) (h : Dm B w b v win last pre ds) :
    Calls Tryd.prog 40 #[.pointer (some ⟨b, 0, none⟩), .int .i64 n] w fun e w' => e = .returned (.int .i64 0) ∧ w' = w := by
  obtain ⟨a, c, hv, _⟩ := h.row.is
  subst hv
  have c2 := h.c2
  have c3 := h.c3
  rw [← List.length_append] at h1
  clear h
  generalize (pre ++ ds).length = L at *
  generalize (pre.length : Int) = P at *
  go_enter Tryd.func40, Tryd.ntmps40
  go_wp2
  go_ret
  exact ⟨rfl, rfl⟩
set_option maxHeartbeats 1000000 in
theorem dack_below (n : Int) (h1 : n ≤ ((pre.length + ds.length : Nat) : Int)) (h2 : n ≤ (pre.length : Int)) (w : World) (h : Dm B w b v win last pre ds) :
    Calls Tryd.prog 40 #[.pointer (some ⟨b, 0, none⟩), .int .i64 n] w fun e w' => e = .returned (.int .i64 0) ∧ w' = w := by
  obtain ⟨a, c, hv, _⟩ := h.row.is
  subst hv
  have c2 := h.c2
  have c3 := h.c3
  rw [← List.length_append] at h1
  have k1 : ¬ ((pre ++ ds).length : Int) < n := by omega
  clear h h1
  generalize (pre ++ ds).length = L at *
  generalize (pre.length : Int) = P at *
  go_enter Tryd.func40, Tryd.ntmps40
  go_wp2
  go_ret
  exact ⟨rfl, rfl⟩
theorem dack_fin {w : World} (m : Nat) (hm : m ≤ ds.length) (n : Int) (hn : n = (pre.length : Int) + (m : Int)) (h : Dm B w b v win last pre ds) : Dm B (w.setCell ⟨b, 3, none⟩ (.int .i64 n)) b v win last (pre ++ ds.take m) (ds.drop m) ∧ w.grownBy (w.setCell ⟨b, 3, none⟩ (.int .i64 n)) (some b) := by
  have hl : (pre ++ ds.take m).length = pre.length + m := by rw [List.length_append, List.length_take]; omega
  have hblk := h.blk
  refine ⟨⟨h.lo, ?_, ?_, ?_⟩, grown_set _ _ _ _⟩
  · rw [hl, hn, show ((pre.length + m : Nat) : Int) = (pre.length : Int) + (m : Int) by omega]
    simp [World.setCell, Array.getElem?_modify, hblk]
  · rw [List.append_assoc, List.take_append_drop]
    exact h.row.same fun j hj => Below.heap_setCell _ _ _ _ (fun e => h.rowb (by rw [hj, e]))
  · rw [hl]; exact h.ok.less m hm
set_option maxHeartbeats 1000000 in
theorem dack_yes (m : Nat) (h0 : 0 < m) (hm : m ≤ ds.length) (n : Int) (hn : n = (pre.length : Int) + (m : Int)) (w : World) (h : Dm B w b v win last pre ds) :
    Calls Tryd.prog 40 #[.pointer (some ⟨b, 0, none⟩), .int .i64 n] w fun e w' => e = .returned (.int .i64 (m : Int)) ∧ Dm B w' b v win last (pre ++ ds.take m) (ds.drop m) ∧ w.grownBy w' (some b) := by
  obtain ⟨a, c, hv, _⟩ := h.row.is
  subst hv
  have c2 := h.c2
  have c3 := h.c3
  have f3 := h.f0 3
  have k1 : ¬ ((pre ++ ds).length : Int) < n := by rw [List.length_append]; omega
  have k2 : ¬ n ≤ (pre.length : Int) := by omega
  have hw2 : IntKind.i64.wrap (n - (pre.length : Int)) = (m : Int) := by
    have := h.ok.w2
    have := h.ok.len
    rw [show n - (pre.length : Int) = (m : Int) by omega]
    exact i64_id (by omega) (by omega)
  have HF := Lib.hid (dack_fin m hm n hn h)
  clear h hn h0 hm
  generalize (pre ++ ds).length = L at *
  generalize (pre.length : Int) = P at c3 k2 hw2
  go_enter Tryd.func40, Tryd.ntmps40
  go_wp2
  go_ret
  exact ⟨rfl, HF.out⟩
theorem dack_any (n : Int) (w : World) (h : Dm B w b v win last pre ds) :
    Calls Tryd.prog 40 #[.pointer (some ⟨b, 0, none⟩), .int .i64 n] w fun e w' => e = .returned (.int .i64 (ackM pre.length ds.length n : Int)) ∧ Dm B w' b v win last (pre ++ ds.take (ackM pre.length ds.length n)) (ds.drop (ackM pre.length ds.length n)) ∧ w.grownBy w' (some b) := by
  unfold ackM
  by_cases h1 : ((pre.length + ds.length : Nat) : Int) < n
  · simp only [if_pos (show ((pre.length + ds.length : Nat) : Int) < n ∨ n ≤ (pre.length : Int) from .inl h1)]
    refine (dack_above n h1 w h).mono ?_
    rintro e w1 ⟨rfl, rfl⟩
    exact ⟨rfl, by simpa using h, World.grownBy.refl _ _⟩
  by_cases h2 : n ≤ (pre.length : Int)
  · simp only [if_pos (show ((pre.length + ds.length : Nat) : Int) < n ∨ n ≤ (pre.length : Int) from .inr h2)]
    refine (dack_below n (by omega) h2 w h).mono ?_
    rintro e w1 ⟨rfl, rfl⟩
    exact ⟨rfl, by simpa using h, World.grownBy.refl _ _⟩
  simp only [if_neg (show ¬ (((pre.length + ds.length : Nat) : Int) < n ∨ n ≤ (pre.length : Int)) by omega)]
  exact dack_yes _ (by omega) (by omega) n (by omega) w h
theorem left_slice {w : World} {a : Option Addr} {c : Nat} (h : Dm B w b (.slice a (pre ++ ds).length c) win last pre ds) :
    ∃ A C, (∀ w, (Instr.sliceAt 97 (.slice a (pre ++ ds).length c) (some (.int .i64 (pre.length : Int))) none none).run Tryd.prog w = .ok (.slice A ds.length C) w) ∧ SsAt w A ds.length ds ∧ ds.length ≤ C ∧ (A = none → C = 0) := by
  obtain ⟨hss, hlc, hn⟩ := h.row.isS rfl
  have hl : pre.length ≤ (pre ++ ds).length := by rw [List.length_append]; omega
  have e : (pre ++ ds).length - pre.length = ds.length := by rw [List.length_append]; omega
  have s := hss.back hlc hl
  refine ⟨_, _, fun w => by rw [slS_back a _ c pre.length hl w, e], ?_, by rw [List.length_append] at hlc; omega, back_none hn⟩
  rw [e, List.drop_left] at s
  exact s
set_option maxHeartbeats 4000000 in
theorem left_any (hbd : ds.length ≤ 10000) (w : World) (h : Dm B w b v win last pre ds) :
    Calls Tryd.prog 48 #[.pointer (some ⟨b, 0, none⟩)] w fun e w' => ∃ a' c', e = .returned (.slice a' ds.length c') ∧ RowS w.heap.size w' (.slice a' ds.length c') ds ∧ Below w.heap.size w w' := by
  obtain ⟨a, c, hv, _⟩ := h.row.is
  subst hv
  obtain ⟨A, C, hsl, hss, hlc, hn⟩ := left_slice h
  have c2 := h.c2
  have c3 := h.c3
  have hA : Dm B (w.drew.alloc (.cells #[] 9)) b _ win last pre ds := (h.asit (w' := w.drew) rfl).next (Joins.below_alloc1 _ _)
  have e2 := hA.c2
  have e3 := hA.c3
  have H := Lib.hid (h.asit (w' := w.drew) rfl)
  have HSS := Lib.hid (ssAt_below hss.drew (Joins.below_alloc1 w.drew (.cells #[] 9)))
  clear h hA hss
  generalize (pre ++ ds).length = L at *
  generalize hP : (pre.length : Int) = P at c3 e3 hsl
  have HP := Lib.hid hP
  clear hP
  go_enter Tryd.func48, Tryd.ntmps48
  go_wp2_with fail
  refine wp_region_held_drew (S := fun w' => w'.cell? ⟨b, 2, none⟩ = some (.slice a L c) ∧ w'.cell? ⟨b, 3, none⟩ = some (.int .i64 P)) (by kernel_rfl) ?_ (fun hH => ?_)
  · exact ⟨c2, c3⟩
  refine wpAnyH_take (i := 1) (oi := { dst := some 4, op := Go.Op.move (Go.Operand.tmp 0), type := 79, pos := "ref.go:51", after := #[], guard := none }) (v := ?_) rfl (by kernel_rfl) (by kernel_rfl) (by kernel_rfl) (fun _ _ _ h => h) (Or.inl ⟨by rfl, ?_⟩) (by assumption) ?_
  rotate_left
  · intro w hSw
    try dsimp only at hSw
    obtain ⟨q2, q3⟩ := hSw
    go_simp
    all_goals with_reducible rfl
  try simp only [Act.put, List.setIfInBounds_toArray, List.set_cons_zero, List.set_cons_succ]
  refine wpAnyH_take (i := 2) (oi := { dst := some 5, op := Go.Op.nilCheck (Go.Operand.tmp 4), type := 0, pos := "ref.go:51", after := #[{ on := 1, ground := Go.Ground.data }], guard := none }) (v := ?_) rfl (by kernel_rfl) (by kernel_rfl) (by kernel_rfl) (fun _ _ _ h => h) (Or.inl ⟨by rfl, ?_⟩) (by assumption) ?_
  rotate_left
  · intro w hSw
    try dsimp only at hSw
    obtain ⟨q2, q3⟩ := hSw
    go_simp
    all_goals with_reducible rfl
  try simp only [Act.put, List.setIfInBounds_toArray, List.set_cons_zero, List.set_cons_succ]
  refine wpAnyH_take (i := 3) (oi := { dst := some 6, op := Go.Op.fieldAddr 100 (Go.Operand.tmp 5) 2, type := 0, pos := "ref.go:51", after := #[{ on := 2, ground := Go.Ground.data }], guard := none }) (v := ?_) rfl (by kernel_rfl) (by kernel_rfl) (by kernel_rfl) (fun _ _ _ h => h) (Or.inl ⟨by rfl, ?_⟩) (by assumption) ?_
  rotate_left
  · intro w hSw
    try dsimp only at hSw
    obtain ⟨q2, q3⟩ := hSw
    go_simp
    all_goals with_reducible rfl
  try simp only [Act.put, List.setIfInBounds_toArray, List.set_cons_zero, List.set_cons_succ]
  refine wpAnyH_take (i := 4) (oi := { dst := some 7, op := Go.Op.load 97 (Go.Operand.tmp 6), type := 97, pos := "ref.go:51", after := #[{ on := 3, ground := Go.Ground.data }], guard := none }) (v := ?_) rfl (by kernel_rfl) (by kernel_rfl) (by kernel_rfl) (fun _ _ _ h => h) (Or.inl ⟨by rfl, ?_⟩) (by assumption) ?_
  rotate_left
  · intro w hSw
    try dsimp only at hSw
    obtain ⟨q2, q3⟩ := hSw
    go_simp
    all_goals with_reducible rfl
  try simp only [Act.put, List.setIfInBounds_toArray, List.set_cons_zero, List.set_cons_succ]
  refine wpAnyH_take (i := 5) (oi := { dst := some 8, op := Go.Op.move (Go.Operand.tmp 0), type := 79, pos := "ref.go:51", after := #[], guard := none }) (v := ?_) rfl (by kernel_rfl) (by kernel_rfl) (by kernel_rfl) (fun _ _ _ h => h) (Or.inl ⟨by rfl, ?_⟩) (by assumption) ?_
  rotate_left
  · intro w hSw
    try dsimp only at hSw
    obtain ⟨q2, q3⟩ := hSw
    go_simp
    all_goals with_reducible rfl
  try simp only [Act.put, List.setIfInBounds_toArray, List.set_cons_zero, List.set_cons_succ]
  refine wpAnyH_take (i := 6) (oi := { dst := some 9, op := Go.Op.nilCheck (Go.Operand.tmp 8), type := 0, pos := "ref.go:51", after := #[{ on := 5, ground := Go.Ground.data }], guard := none }) (v := ?_) rfl (by kernel_rfl) (by kernel_rfl) (by kernel_rfl) (fun _ _ _ h => h) (Or.inl ⟨by rfl, ?_⟩) (by assumption) ?_
  rotate_left
  · intro w hSw
    try dsimp only at hSw
    obtain ⟨q2, q3⟩ := hSw
    go_simp
    all_goals with_reducible rfl
  try simp only [Act.put, List.setIfInBounds_toArray, List.set_cons_zero, List.set_cons_succ]
  refine wpAnyH_take (i := 7) (oi := { dst := some 10, op := Go.Op.fieldAddr 100 (Go.Operand.tmp 9) 3, type := 0, pos := "ref.go:51", after := #[{ on := 6, ground := Go.Ground.data }], guard := none }) (v := ?_) rfl (by kernel_rfl) (by kernel_rfl) (by kernel_rfl) (fun _ _ _ h => h) (Or.inl ⟨by rfl, ?_⟩) (by assumption) ?_
  rotate_left
  · intro w hSw
    try dsimp only at hSw
    obtain ⟨q2, q3⟩ := hSw
    go_simp
    all_goals with_reducible rfl
  try simp only [Act.put, List.setIfInBounds_toArray, List.set_cons_zero, List.set_cons_succ]
  refine wpAnyH_take (i := 8) (oi := { dst := some 11, op := Go.Op.load 3 (Go.Operand.tmp 10), type := 3, pos := "ref.go:51", after := #[{ on := 7, ground := Go.Ground.data }], guard := none }) (v := ?_) rfl (by kernel_rfl) (by kernel_rfl) (by kernel_rfl) (fun _ _ _ h => h) (Or.inl ⟨by rfl, ?_⟩) (by assumption) ?_
  rotate_left
  · intro w hSw
    try dsimp only at hSw
    obtain ⟨q2, q3⟩ := hSw
    go_simp
    all_goals with_reducible rfl
  try simp only [Act.put, List.setIfInBounds_toArray, List.set_cons_zero, List.set_cons_succ]
  refine wpAnyH_take (i := 9) (oi := { dst := some 12, op := Go.Op.slice 97 (Go.Operand.tmp 7) (some (Go.Operand.tmp 11)) none none, type := 97, pos := "ref.go:51", after := #[{ on := 4, ground := Go.Ground.data }, { on := 8, ground := Go.Ground.data }], guard := none }) (v := ?_) rfl (by kernel_rfl) (by kernel_rfl) (by kernel_rfl) (fun _ _ _ h => h) (Or.inl ⟨by rfl, ?_⟩) (by assumption) ?_
  rotate_left
  · intro w hSw
    try dsimp only at hSw
    obtain ⟨q2, q3⟩ := hSw
    go_simp
    all_goals with_reducible rfl
  try simp only [Act.put, List.setIfInBounds_toArray, List.set_cons_zero, List.set_cons_succ]
  refine wpAnyH_ready (rs := [0]) (by kernel_rfl) (by simp) ?_
  refine AllReadyH.cons (o := { dst := some 3, op := Go.Op.buildSlice 97 0 #[], type := 97, pos := "ref.go:51", after := #[], guard := none }) rfl (fun K hK => ?_) ?_
  · go_simp
    refine hK.out _ _ ?_ (fun hH => ?_)
    · exact ⟨e2, e3⟩
    clear hK K
    try simp only [Act.put, List.setIfInBounds_toArray, List.set_cons_zero, List.set_cons_succ]
    refine wpAnyH_ready (rs := [10]) (by kernel_rfl) (by simp) ?_
    refine AllReadyH.cons (o := { dst := some 13, op := Go.Op.call { callee := Go.Callee.builtin Go.Builtin.append, args := #[Go.Operand.tmp 3, Go.Operand.tmp 12], argTypes := #[97, 97] }, type := 97, pos := "ref.go:51", after := #[{ on := 0, ground := Go.Ground.data }, { on := 9, ground := Go.Ground.data }], guard := none }) rfl (fun K hK => ?_) ?_
    · refine step_appS (by rfl) (.tmp 3) (.tmp 12) rfl w.drew.heap.size _ [] rfl (rowS_new w.drew) A ds.length C rfl ds HSS.out hlc hn (by simp only [List.length_nil]; omega) (by simp) ?_
      intro a5 c5 w5 hr5 hg5 _
      simp only [List.length_nil, Nat.zero_add, List.nil_append] at hr5 ⊢
      have hb5 : Below w.drew.heap.size w.drew w5 := belS (rowS_new w.drew) (Joins.below_alloc1 _ _) hg5 (by simp)
      have h5 := H.out.next hb5
      have HR5 := Lib.hid hr5
      have HB5 : Hid (Below w.heap.size w w5) := Lib.hid ⟨hb5.os, hb5.tape, hb5.output, hb5.size, hb5.block⟩
      have g2 := h5.c2
      have g3 := h5.c3
      rw [HP.out] at g3
      clear hr5 hg5 hb5 h5
      refine hK.out _ _ ?_ (fun hH => ?_)
      · exact ⟨g2, g3⟩
      clear hK K
      try simp only [Act.put, List.setIfInBounds_toArray, List.set_cons_zero, List.set_cons_succ]
      refine wpAnyH_take (i := 11) (oi := { dst := some 2, op := Go.Op.assign (Go.Operand.tmp 13), type := 97, pos := "ref.go:51", after := #[{ on := 10, ground := Go.Ground.data }, { on := 10, ground := Go.Ground.chain }, { on := 0, ground := Go.Ground.phase }, { on := 1, ground := Go.Ground.phase }, { on := 2, ground := Go.Ground.phase }, { on := 3, ground := Go.Ground.phase }, { on := 4, ground := Go.Ground.phase }, { on := 5, ground := Go.Ground.phase }, { on := 6, ground := Go.Ground.phase }, { on := 7, ground := Go.Ground.phase }, { on := 8, ground := Go.Ground.phase }, { on := 9, ground := Go.Ground.phase }, { on := 10, ground := Go.Ground.phase }], guard := none }) (v := ?_) rfl (by kernel_rfl) (by kernel_rfl) (by kernel_rfl) (fun _ _ _ h => h) (Or.inl ⟨by rfl, ?_⟩) (by assumption) ?_
      rotate_left
      · intro w hSw
        try dsimp only at hSw
        obtain ⟨q2, q3⟩ := hSw
        go_simp
        all_goals with_reducible rfl
      try simp only [Act.put, List.setIfInBounds_toArray, List.set_cons_zero, List.set_cons_succ]
      refine wpAnyH_done (by kernel_rfl) ?_ _
      go_wp2
      go_ret
      exact ⟨a5, c5, rfl, HR5.out, HB5.out⟩
    exact AllReadyH.nil
  exact AllReadyH.nil
end
end Go.Proofs.YtjmkdgjdemndaaaDoor.K
