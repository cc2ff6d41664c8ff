/- round.Copy. -/
import Derived.Test.YtbbgibekplfacaaDoorI0a
import Derived.Test.YtbbgibekplfacaaDoorSH
import Derived.Deep.RegionHeld3
import Derived.Deep.RegionWith
namespace Go.Proofs.YtbbgibekplfacaaDoor
open Go Go.RowKit
set_option maxHeartbeats 400000 in
theorem clone_any (s : ByteArray) (hs : s.size ≤ 140737488355328) (w : World) : Calls Tryd.prog 58 #[.string s] w fun x w' => x = .returned (.string s) ∧ Below w.heap.size w w' := by
  go_enter Tryd.func58, Tryd.ntmps58
  go_wp2_with fail
  refine (liteClone s hs _).mono ?_
  rintro x w1 ⟨rfl, hb⟩
  have HB := Lib.hid hb
  clear hb
  go_wp2
  go_ret
  exact ⟨rfl, HB.out⟩
/-- Within Copy: the round that came, the result, the row that is made. -/
structure CP (w wr : World) (g : Nat) (o n : Int) (a : Option Addr) (len cap : Nat) (l : List Up) : Prop where
  rb : Rb wr w.heap.size o n a len cap
  res : Rb wr (w.heap.size + 1) 0 0 none 0 0
  rw : Rw wr g l
  lo : w.heap.size + 1 < g
  bel : Below w.heap.size w wr
section
variable {w wr w' : World} {g : Nat} {o n : Int} {a : Option Addr} {len cap : Nat} {l : List Up}
theorem CP.next (h : CP w wr g o n a len cap l) (hb : Below wr.heap.size wr w') : CP w w' g o n a len cap l := ⟨h.rb.next hb, h.res.next hb, h.rw.next hb, h.lo, Below.next h.bel hb⟩
theorem CP.drew (h : CP w wr g o n a len cap l) : CP w wr.drew g o n a len cap l := ⟨h.rb, h.res, h.rw, h.lo, h.bel.drew⟩
theorem CP.setnew (h : CP w wr g o n a len cap l) {k : Nat} (hk : g < k) (i : Nat) (v : Value) : CP w (wr.setCell ⟨k, i, none⟩ v) g o n a len cap l :=
  have h1 := h.lo
  ⟨h.rb.setnew (by omega) _ _, h.res.setnew (by omega) _ _, h.rw.setnew (by omega) _ _, h.lo, h.bel.setCell (by show w.heap.size ≤ k; omega) _⟩
theorem CP.set (h : CP w wr g o n a len cap l) (k : Nat) (hk : k < l.length) (u : Up) :
    CP w ((((wr.setCell ⟨g, k * 4, none⟩ (.string u.1)).setCell ⟨g, k * 4 + 1, none⟩ (.int .i64 u.2.1)).setCell ⟨g, k * 4 + 2, none⟩ (.int .i64 u.2.2.1)).setCell ⟨g, k * 4 + 3, none⟩ (.string u.2.2.2)) g o n a len cap (l.set k u) :=
  have h1 := h.lo
  have e1 : w.heap.size ≠ g := by omega
  have e2 : w.heap.size + 1 ≠ g := by omega
  have h2 : w.heap.size ≤ g := by omega
  ⟨(((h.rb.setnew e1 _ _).setnew e1 _ _).setnew e1 _ _).setnew e1 _ _, (((h.res.setnew e2 _ _).setnew e2 _ _).setnew e2 _ _).setnew e2 _ _, h.rw.set4 k hk u, h.lo,
    (((h.bel.setCell (by show w.heap.size ≤ g; omega) _).setCell (by show w.heap.size ≤ g; omega) _).setCell (by show w.heap.size ≤ g; omega) _).setCell (by show w.heap.size ≤ g; omega) _⟩
end
theorem CP.start (w : World) {w1 : World} (o n : Int) (a : Option Addr) (len cap : Nat) {k : Nat}
    (hg : ((w.alloc (.cells #[.int .i64 o, .int .i64 n, .slice a len cap] 35)).alloc (.cells #[.int .i64 0, .int .i64 0, .slice none 0 0] 35)).grownBy w1 none)
    (hr : Rw w1 (w.heap.size + 2) (List.replicate k up0)) : CP w w1 (w.heap.size + 2) o n a len cap (List.replicate k up0) := by
  obtain ⟨r1, r2⟩ := two_rounds w o n a len cap 0 0 none 0 0
  have hB := Joins.below_alloc2 w (.cells #[.int .i64 o, .int .i64 n, .slice a len cap] 35) (.cells #[.int .i64 0, .int .i64 0, .slice none 0 0] 35)
  exact ⟨r1.kept hg (by simp), r2.kept hg (by simp), hr, by omega, hB.grown hg hB.size (fun k e => by cases e)⟩
set_option maxHeartbeats 8000000 in
theorem rndcopy_any (o n : Int) (a : Option Addr) (len cap : Nat) (us : List Up) (hl : len ≤ 1000) (hs : ∀ i, i < len → (us.getD i up0).1.size ≤ 140737488355328 ∧ (us.getD i up0).2.2.2.size ≤ 140737488355328) (w : World) (hu : IsUs w a len us) :
    Calls Tryd.prog 39 #[.agg #[.int .i64 o, .int .i64 n, .slice a len cap]] w fun x w' => x = .returned (.agg #[.int .i64 o, .int .i64 n, .slice (some ⟨w.heap.size + 2, 0, none⟩) len len]) ∧ Rw w' (w.heap.size + 2) us ∧ Below w.heap.size w w' := by
  have hsz := hu.size
  obtain ⟨i0, hi, hz0, hz1, hz2⟩ := info_parts infoUz
  obtain ⟨r1, r2⟩ := two_rounds w o n a len cap 0 0 none 0 0
  have c2 := r1.c2
  have HU := Lib.hid hu
  have HS := Lib.hid hs
  clear r1 r2 hu hs
  go_enter Tryd.func39, Tryd.ntmps39
  go_wp2_with (at_make; refine wpList_make_full _ rfl _ _ 33 rfl w.heap.size 32 i0 _ 4 Tryd.underlying33 hi hz0 hz1 .i64 .i64 (len : Int) (len : Int) len rfl rfl rfl rfl (by rw [hz2]; omega) (by unfold maxLen; omega) (by simp; omega) ?_)
  intro w1 hown hgr
  have hp := CP.start w o n a len cap hgr (Rw.made hown)
  have c2 := hp.rb.c2
  have HP := Lib.hid hp
  clear hown hgr hp hi hz0 hz1 hz2
  go_wp2_with fail
  clear c2
  go_loopw [13] (fun v13 wr => ∃ k : Nat, k ≤ len ∧ v13 = .int .i64 k ∧ CP w wr (w.heap.size + 2) o n a len cap (us.take k ++ List.replicate (len - k) up0)) (fun v13 _ => len - (intOf v13).toNat)
  case atStart => exact ⟨0, Nat.zero_le _, rfl, HP.out⟩
  case round =>
    obtain ⟨k, hk, rfl, hp⟩ := hrel
    clear HP
    by_cases hlt : k < len
    · obtain ⟨b, off, rfl, hbl, c0, c1, c2, c3⟩ := cells_of HU.out hp.bel hlt
      obtain ⟨y1, y2⟩ := HS.out k hlt
      have HP := Lib.hid (hp.next (Joins.below_alloc1 wr (.cells #[.string (us.getD k up0).1, .int .i64 (us.getD k up0).2.1, .int .i64 (us.getD k up0).2.2.1, .string (us.getD k up0).2.2.2] 32)))
      have hgl := hp.rw.lt
      have HT := Lib.hid (utake_step us k (by omega))
      clear hp hbl
      generalize us.getD k up0 = u at *
      obtain ⟨key, x, nn, t⟩ := u
      simp only at c0 c1 c2 c3 y1 y2 HP
      have hU := Ub.new wr (key, x, nn, t)
      have d0 := hU.c0
      have d1 := hU.c1
      have d2 := hU.c2
      have d3 := hU.c3
      have e0 := hU.f0 0
      have e3 := hU.f0 3
      have HUB := Lib.hid hU
      clear hU
      go_wp2_with fail
      clear c0 c1 c2 c3
      generalize hub : wr.heap.size = ub at *
      have HUBE := Lib.hid hub
      clear hub d0 d1 d2 d3 e0 e3
      have hU : Ub (wr.alloc (.cells #[.string key, .int .i64 x, .int .i64 nn, .string t] 32)).drew ub (key, x, nn, t) := HUB.out
      have HP := Lib.hid HP.out.drew
      have d0 := hU.c0
      have d1 := hU.c1
      have d2 := hU.c2
      have d3 := hU.c3
      have e0 := hU.f0 0
      have e3 := hU.f0 3
      have HUB := Lib.hid hU
      clear hU
      go_region_held3 (fun w' => w'.cell? ⟨ub, 0, none⟩ = some (.string key) ∧ w'.cell? ⟨ub, 3, none⟩ = some (.string t))
        (first | (with_reducible exact ⟨d0, d3⟩) | (with_reducible exact ⟨k0, k3⟩) | (with_reducible exact ⟨m0, m3⟩) | (with_reducible exact ⟨j0, j3⟩))
        (first
          | (go_at_call 58
             refine (clone_any _ (by first | exact y1 | exact y2) _).mono ?_
             rintro e w3 ⟨rfl, hb⟩
             have hU := HUB.out.below hb HUB.out.lt
             have HP := Lib.hid (HP.out.next hb)
             have d0 := hU.c0
             have d1 := hU.c1
             have d2 := hU.c2
             have d3 := hU.c3
             have e0 := hU.f0 0
             have e3 := hU.f0 3
             have k0 := (hU.set0 key).c0
             have k3 := (hU.set0 key).c3
             have j0 := (hU.set3 t).c0
             have j3 := (hU.set3 t).c3
             have m0 := ((hU.set0 key).set3 t).c0
             have m3 := ((hU.set0 key).set3 t).c3
             have HUB := Lib.hid hU
             clear hU hb))
      have hU : Ub _ ub (key, x, nn, t) := (HUB.out.set0 key).set3 t
      have hp := (HP.out.setnew hgl 0 (.string key)).setnew hgl 3 (.string t)
      have hlk : k < (us.take k ++ List.replicate (len - k) up0).length := by rw [List.length_append, List.length_replicate, List.length_take]; omega
      have hlen : (us.take k).length = k := by rw [List.length_take]; omega
      obtain ⟨x0, x1, x2, x3⟩ := hp.rw.row k hlk
      have f0 := hp.rw.f0 (k * 4)
      have f1 := hp.rw.f0 (k * 4 + 1)
      have f2 := hp.rw.f0 (k * 4 + 2)
      have f3 := hp.rw.f0 (k * 4 + 3)
      have d0 := hU.c0
      have d1 := hU.c1
      have d2 := hU.c2
      have d3 := hU.c3
      have HP2 := Lib.hid (hp.set k hlk (key, x, nn, t))
      clear hp hU HP HUB hlk k0 k3 j0 j3 m0 m3 e0 e3
      go_wp2
      go_roundw
      case rel => exact ⟨k + 1, by omega, by go_num, by rw [HT.out]; have := HP2.out; rw [set_step _ len k _ hlen hlt] at this; exact this⟩
      case measure => simp [intOf]; omega
    · obtain rfl : k = len := by omega
      rw [Nat.sub_self, List.replicate_zero, List.append_nil, List.take_of_length_le (by omega)] at hp
      have p0 := hp.rb.c0
      have p1 := hp.rb.c1
      have p2 := hp.rb.c2
      have pf := hp.rb.f0 2
      have o0 := hp.res.c0
      have o1 := hp.res.c1
      have o2 := hp.res.c2
      have g0 := hp.res.f0 0
      have g1 := hp.res.f0 1
      have g2 := hp.res.f0 2
      have HP := Lib.hid hp
      clear hp
      go_wp2
      refine bodyPost_ret (v := .agg #[.int .i64 o, .int .i64 n, .slice (some ⟨w.heap.size + 2, 0, none⟩) k k]) (by simp [results, Tryd.results39, go_sem, o0, o1, o2]) rfl ⟨rfl, ?_, ?_⟩
      · exact ((HP.out.rw.setnew (show w.heap.size + 2 ≠ w.heap.size by omega) _ _)).set3 (show w.heap.size + 2 ≠ w.heap.size + 1 by omega) _ _ _
      · exact below_set3 (HP.out.bel.setCell (Nat.le_refl _) _) (show w.heap.size ≤ w.heap.size + 1 by omega) _ _ _
end Go.Proofs.YtbbgibekplfacaaDoor
