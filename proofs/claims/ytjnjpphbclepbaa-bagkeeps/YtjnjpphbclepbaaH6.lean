/- The program's Spoil. -/
import Derived.Test.YtjnjpphbclepbaaH5
namespace Go.Proofs.Ytjnjpphbclepbaa
open Go Go.RowKit
set_option maxRecDepth 20000
theorem RowK.put {B : Nat} {w : World} {g n c : Nat} {l : List Pk} (h : RowK B w (.slice (some ⟨g, 0, none⟩) n c) l) (hn : n = l.length) {k r : Nat} (hk : k < l.length) (hr : r < 4) (v : Value) (f : Pk) (hf : c4K f = (c4K (l.getD k pq0)).set r v) :
    RowK B (w.setCell ⟨g, k * 4 + r, none⟩ v) (.slice (some ⟨g, 0, none⟩) n c) (l.set k f) := by
  subst hn
  have h2 := (World.ownsRow.stored h (k * 4 + r) v).1
  rw [flK_set l k r hk hr v f hf] at h2
  unfold RowK
  rw [List.length_set]
  exact h2
def spoilL (l : List Pk) (k : Nat) (bit : Int) (m : Nat) : List Pk := l.set k ((l.getD k pq0).1, (l.getD k pq0).2.1, flp (l.getD k pq0).2.2.1 bit m, true)
theorem spoilL_len (l : List Pk) (k : Nat) (bit : Int) (m : Nat) : (spoilL l k bit m).length = l.length := by simp [spoilL]
theorem okb_spoil {l : List Pk} (h : Okb l) {k : Nat} (hk : k < l.length) (bit : Int) (m : Nat) : Okb (spoilL l k bit m) := ⟨by rw [spoilL_len]; exact h.len, fun p hp => by
  rcases List.mem_or_eq_of_mem_set hp with hp | rfl
  · exact h.sh p hp
  · show (flp _ bit m).size ≤ 1000
    rw [flp_size]
    exact h.sh _ (getD_mem hk)⟩
section
variable {B b : Nat} {v : Value} {l : List Pk}
set_option maxHeartbeats 1600000 in
theorem spoil_none (i : Int) (hi : ¬ (0 ≤ i ∧ i < (l.length : Int))) (bit m : Int) (w : World) (h : Bk B w b v l) : Calls Try.prog 18 #[.pointer (some ⟨b, 0, none⟩), .int .i64 i, .int .i64 bit, .int .u32 m] w fun x w' => x = .returned (.int .i64 11) ∧ w' = w := by
  have HH := fun W hW => Lib.hid (has_any (B := B) (b := b) (v := v) (l := l) i false (by simpa using hi) W hW)
  have HBK := Lib.hid h
  clear h hi
  go_enter Try.func18, Try.ntmps18
  go_wp2_with fail
  refine (HH _ HBK.out).out.mono ?_
  rintro e w1 ⟨rfl, hw⟩
  obtain rfl := hw.symm
  go_wp2
  go_ret
  exact ⟨rfl, rfl⟩
set_option maxHeartbeats 1600000 in
theorem spoil_twice (k : Nat) (hk : k < l.length) (hm : (l.getD k pq0).2.2.2 = true) (bit m : Int) (w : World) (h : Bk B w b v l) : Calls Try.prog 18 #[.pointer (some ⟨b, 0, none⟩), .int .i64 (k : Int), .int .i64 bit, .int .u32 m] w fun x w' => x = .returned (.int .i64 12) ∧ w' = w := by
  have HH := fun W hW => Lib.hid (has_any (B := B) (b := b) (v := v) (l := l) (k : Int) true (by simp; omega) W hW)
  have HBK := Lib.hid h
  obtain ⟨g, c, rfl, _, _, hat, _⟩ := h.at hk
  have x3 := (hat k hk).m
  rw [hm] at x3
  have c0 := h.c0
  generalize l.length = n at *
  clear h hat hm
  go_enter Try.func18, Try.ntmps18
  go_wp2_with fail
  refine (HH _ HBK.out).out.mono ?_
  rintro e w1 ⟨rfl, hw⟩
  obtain rfl := hw.symm
  go_wp2
  go_ret
  exact ⟨rfl, rfl⟩
set_option maxHeartbeats 4000000 in
theorem spoil_ok (k : Nat) (hk : k < l.length) (hm : (l.getD k pq0).2.2.2 = false) (bit : Int) (b1 : -9223372036854775808 ≤ bit) (b2 : bit ≤ 9223372036854775807) (m : Nat) (hm32 : m < 4294967296) (w : World) (h : Bk B w b v l) :
    Calls Try.prog 18 #[.pointer (some ⟨b, 0, none⟩), .int .i64 (k : Int), .int .i64 bit, .int .u32 (m : Int)] w fun x w' => x = .returned (.int .i64 0) ∧ (∃ v', v'.ownBlock = v.ownBlock ∧ Bk B w' b v' (spoilL l k bit m)) ∧ Fr w w' b v.ownBlock := by
  have HH := fun W hW => Lib.hid (has_any (B := B) (b := b) (v := v) (l := l) (k : Int) true (by simp; omega) W hW)
  have HBK := Lib.hid h
  have HK := Lib.hid hk
  have hsz := h.sz hk
  have hokS := okb_spoil h.ok hk bit m
  have HOKS := Lib.hid hokS
  unfold spoilL at *
  obtain ⟨⟨pf, pt, pd, pm⟩, hp⟩ : ∃ p, l.getD k pq0 = p := ⟨_, rfl⟩
  rw [hp] at hm hsz HOKS ⊢
  simp only at hm hsz HOKS ⊢
  subst hm
  have HP := Lib.hid hp
  have HC := fun w => Lib.hid (changed_any pd hsz bit b1 b2 m hm32 w)
  obtain ⟨g, c, rfl, _, hgb, hat, hfr⟩ := h.at hk
  have hx := hat k hk
  rw [hp] at hx
  have x2 := hx.d
  have x3 := hx.m
  simp only at x2 x3
  have c0 := h.c0
  have HGB := Lib.hid hgb
  have HLT := Lib.hid h.lt
  generalize flp pd bit m = pd' at *
  obtain ⟨n, hn⟩ : ∃ n, l.length = n := ⟨_, rfl⟩
  rw [hn] at c0 hk
  have HN := Lib.hid hn
  clear h hat hp hx hokS hn hfr hsz hgb
  go_enter Try.func18, Try.ntmps18
  go_wp2_with fail
  refine (HH _ HBK.out).out.mono ?_
  rintro e w1 ⟨rfl, hw⟩
  obtain rfl := hw.symm
  clear HH
  go_wp2_with fail
  refine (HC _).out.mono ?_
  rintro e w2 ⟨rfl, hb⟩
  have hk2 := HBK.out.next hb
  obtain ⟨g', c', hv, _, _, hat, hfr⟩ := hk2.at HK.out
  cases hv
  have hx := hat k HK.out
  rw [HP.out] at hx
  have y2 := hx.d
  have y3 := hx.m
  simp only at y2 y3
  have z2 := hfr (k * 4 + 2)
  have z3 := hfr (k * 4 + 3)
  have HB := Lib.hid hb
  have r1 := hk2.row.put rfl HK.out (show 2 < 4 by decide) (.string pd') (pf, pt, pd', false) (by rw [HP.out]; rfl)
  have e1 : (l.set k (pf, pt, pd', false)).getD k pq0 = (pf, pt, pd', false) := by simp [List.getD_eq_getElem?_getD, HK.out]
  have r2 := r1.put (by simp) (show k < (l.set k (pf, pt, pd', false)).length by rw [List.length_set]; exact HK.out) (show 3 < 4 by decide) (.bool true) (pf, pt, pd', true) (by rw [e1]; rfl)
  rw [List.set_set] at r2
  have hbl : ((w2.setCell ⟨g, k * 4 + 2, none⟩ (.string pd')).setCell ⟨g, k * 4 + 3, none⟩ (.bool true)).heap[b]? = some (.cells #[.slice (some ⟨g, 0, none⟩) l.length c] 53 (0, 0)) := (Below.heap_setCell _ _ _ _ (Ne.symm HGB.out)).trans ((Below.heap_setCell _ _ _ _ (Ne.symm HGB.out)).trans hk2.blk)
  have HFIN : Hid (Bk B ((w2.setCell ⟨g, k * 4 + 2, none⟩ (.string pd')).setCell ⟨g, k * 4 + 3, none⟩ (.bool true)) b (.slice (some ⟨g, 0, none⟩) l.length c) (l.set k (pf, pt, pd', true))) := Lib.hid ⟨hk2.lo, hbl, r2, HOKS.out⟩
  have HFR : Hid (Fr w ((w2.setCell ⟨g, k * 4 + 2, none⟩ (.string pd')).setCell ⟨g, k * 4 + 3, none⟩ (.bool true)) b (Value.slice (some ⟨g, 0, none⟩) l.length c).ownBlock) := Lib.hid (((Fr.ofBelow HB.out).trans (Fr.ofRow (grown_set w2 g (k * 4 + 2) _))).trans (Fr.ofRow (grown_set _ g (k * 4 + 3) _)))
  clear hb hk2 hat hfr hx r1 r2 e1 hbl c0 x2 x3
  go_wp2
  go_ret
  exact ⟨rfl, ⟨_, rfl, HFIN.out⟩, HFR.out⟩
end
end Go.Proofs.Ytjnjpphbclepbaa
