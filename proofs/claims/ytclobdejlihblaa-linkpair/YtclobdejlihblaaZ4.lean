/- Offer, Ack, Clone, Pieces, Copy. -/
import Derived.Test.YtclobdejlihblaaZ3
namespace Go.Proofs.Ytclobdejlihblaa
open Go Go.RowKit
set_option maxRecDepth 20000
section
variable {B b : Nat} {v : Value} {win last : Int} {k : Nat} {ds : List ByteArray}
set_option maxHeartbeats 1000000 in
theorem off_full (x : ByteArray) (h1 : win ≤ (ds.length : Int)) (w : World) (h : Sn B w b v win last k ds) :
    Calls Try.prog 32 #[.pointer (some ⟨b, 0, none⟩), .string x] w fun e w' => e = .returned (.tuple #[.int .i64 0, .int .i64 7]) ∧ w'.heap = w.heap ∧ w'.os = w.os ∧ w'.tape = w.tape ∧ w'.output = w.output := by
  obtain ⟨a, c, hv, hlc, hn⟩ := h.row.is
  subst hv
  have c0 := h.c0
  have c3 := h.c3
  clear h hlc hn
  go_enter Try.func32, Try.ntmps32
  go_wp2_with fail
  go_quiet (fail)
  go_wp2
  go_ret2
  exact ⟨rfl, rfl, rfl, rfl, rfl⟩
set_option maxHeartbeats 1000000 in
theorem off_used (x : ByteArray) (h1 : (ds.length : Int) < win) (h2 : last ≤ ((k + ds.length : Nat) : Int)) (w : World) (h : Sn B w b v win last k ds) :
    Calls Try.prog 32 #[.pointer (some ⟨b, 0, none⟩), .string x] w fun e w' => e = .returned (.tuple #[.int .i64 0, .int .i64 8]) ∧ w'.heap = w.heap ∧ w'.os = w.os ∧ w'.tape = w.tape ∧ w'.output = w.output := by
  obtain ⟨a, c, hv, hlc, hn⟩ := h.row.is
  subst hv
  have c0 := h.c0
  have c1 := h.c1
  have c2 := h.c2
  have c3 := h.c3
  have k1 : ¬ win ≤ (ds.length : Int) := by omega
  clear h hlc hn h1
  generalize ((k + ds.length : Nat) : Int) = S at *
  go_enter Try.func32, Try.ntmps32
  go_wp2_with fail
  go_quiet (fail)
  go_wp2_with fail
  go_quiet (fail)
  go_wp2
  go_ret2
  exact ⟨rfl, rfl, rfl, rfl, rfl⟩
theorem Sn.asit {w w' : World} (h : Sn B w b v win last k ds) (e : w'.heap = w.heap) : Sn B w' b v win last k ds := h.same (by rw [e]) (fun j _ => by rw [e])
theorem Fr.asit {w w' : World} {b : Nat} {r : Option Nat} (e : w'.heap = w.heap) (e1 : w'.os = w.os) (e2 : w'.tape = w.tape) (e3 : w'.output = w.output) : Fr w w' b r := ⟨e1, e2, e3, by rw [e]; exact Nat.le_refl _, fun i _ _ _ => by rw [e]⟩
theorem off_any (x : ByteArray) (hx : x.size ≤ 1000) (w : World) (h : Sn B w b v win last k ds) :
    Calls Try.prog 32 #[.pointer (some ⟨b, 0, none⟩), .string x] w fun e w' => e = .returned (.tuple #[.int .i64 (offN win last k ds), .int .i64 (offE win last k ds)]) ∧ ∃ v', Sn B w' b v' win last k (offD win last k ds x) ∧ Fr w w' b v.ownBlock ∧ Nw w v v' := by
  unfold offN offE offD
  by_cases h1 : win ≤ (ds.length : Int)
  · simp only [if_pos h1]
    refine (off_full x h1 w h).mono ?_
    rintro e w1 ⟨rfl, e1, e2, e3, e4⟩
    exact ⟨rfl, v, h.asit e1, Fr.asit e1 e2 e3 e4, Nw.refl _ _⟩
  · simp only [if_neg h1]
    by_cases h2 : last ≤ ((k + ds.length : Nat) : Int)
    · simp only [if_pos h2]
      refine (off_used x (by omega) h2 w h).mono ?_
      rintro e w1 ⟨rfl, e1, e2, e3, e4⟩
      exact ⟨rfl, v, h.asit e1, Fr.asit e1 e2 e3 e4, Nw.refl _ _⟩
    · simp only [if_neg h2]
      exact off_yes x hx (by omega) (by omega) w h
/-- So many pieces less. -/
theorem Ok.less (h : Ok win last k ds) (m : Nat) (hm : m ≤ ds.length) : Ok win last (k + m) (ds.drop m) := by
  have := h.len
  have := h.all
  refine ⟨h.w1, h.w2, h.l1, h.l2, by simp only [List.length_drop]; omega, by simp only [List.length_drop]; omega, fun d hd => h.sh d (List.mem_of_mem_drop hd)⟩
theorem cut_fin {w w1 : World} {g off cap m : Nat} {cur cur' : Array Value} (h : Sn B w b (.slice (some ⟨g, off, none⟩) ds.length cap) win last k ds) (hm : m ≤ ds.length)
    (hg : w.heap[g]? = some (.cells cur 84 (0, 0))) (hsz : off + ds.length * 2 ≤ cur.size) (hc : ∀ j, j < ds.length * 2 → cur[off + j]? = (flP k ds)[j]?)
    (hg1 : w1.heap[g]? = some (.cells cur' 84 (0, 0))) (hs1 : cur'.size = cur.size) (hc1 : ∀ j, off + m * 2 ≤ j → cur'[j]? = cur[j]?) (hgr : w.grownBy w1 (some g)) :
    Sn B (w1.setCell ⟨b, 3, none⟩ (.slice (if ds.length = m then some ⟨g, off, none⟩ else some ⟨g, off + m * 2, none⟩) (ds.length - m) (ds.length - m))) b (.slice (if ds.length = m then some ⟨g, off, none⟩ else some ⟨g, off + m * 2, none⟩) (ds.length - m) (ds.length - m)) win last (k + m) (ds.drop m) ∧
      Fr w (w1.setCell ⟨b, 3, none⟩ (.slice (if ds.length = m then some ⟨g, off, none⟩ else some ⟨g, off + m * 2, none⟩) (ds.length - m) (ds.length - m))) b (some g) ∧ Nw w (.slice (some ⟨g, off, none⟩) ds.length cap) (.slice (if ds.length = m then some ⟨g, off, none⟩ else some ⟨g, off + m * 2, none⟩) (ds.length - m) (ds.length - m)) := by
  have hblk := h.blk
  have hbg : b ≠ g := two_types hblk hg (by decide)
  have b1 : w1.heap[b]? = some (.cells #[.int .i64 win, .int .i64 last, .int .i64 ((k + ds.length : Nat) : Int), .slice (some ⟨g, off, none⟩) ds.length cap] 81 (0, 0)) := (hgr.block b h.lt (fun e => hbg (by simpa using e))).trans hblk
  have hgB := (h.row.lt g rfl).1
  have eN : k + ds.length = k + m + (ds.drop m).length := by rw [List.length_drop]; omega
  obtain ⟨P, hP⟩ : ∃ P : Nat, (if ds.length = m then some (⟨g, off, none⟩ : Addr) else some ⟨g, off + m * 2, none⟩) = some ⟨g, P, none⟩ ∧ (ds.length ≠ m → P = off + m * 2) ∧ (ds.length = m → P = off) := by
    by_cases e : ds.length = m
    · exact ⟨off, by rw [if_pos e], fun x => absurd e x, fun _ => rfl⟩
    · exact ⟨off + m * 2, by rw [if_neg e], fun _ => rfl, fun x => absurd x e⟩
  obtain ⟨hP, hP1, hP2⟩ := hP
  rw [hP]
  refine ⟨⟨h.lo, ?_, .inr ⟨g, P, ds.length - m, cur', by rw [List.length_drop], hgB, ?_, by rw [List.length_drop]; exact Nat.le_refl _, ?_, ?_, .inl (by rw [List.length_drop])⟩, h.ok.less m hm⟩, (Fr.ofRow hgr).trans (Fr.set _ _ _ _ _), fun j hj => .inl ?_⟩
  · rw [← eN]
    simp [World.setCell, Array.getElem?_modify, b1]
  · rw [Below.heap_setCell _ _ _ _ (Ne.symm hbg)]
    exact hg1
  · rw [List.length_drop]
    rcases Classical.em (ds.length = m) with e | e
    · rw [hP2 e]; omega
    · rw [hP1 e]; omega
  · intro j hj
    rw [List.length_drop] at hj
    have e : ds.length ≠ m := by omega
    rw [hP1 e, hc1 _ (by omega), show off + m * 2 + j = off + (m * 2 + j) by omega, hc _ (by omega), ← flP_drop, List.getElem?_drop]
  · exact hj
set_option maxHeartbeats 1000000 in
theorem cut_any (m : Nat) (h0 : 0 < m) (hm : m ≤ ds.length) (w : World) (h : Sn B w b v win last k ds) :
    Calls Try.prog 46 #[.pointer (some ⟨b, 0, none⟩), .int .i64 (m : Int)] w fun e w' => e = .returned (.tuple #[]) ∧ ∃ v', Sn B w' b v' win last (k + m) (ds.drop m) ∧ Fr w w' b v.ownBlock ∧ Nw w v v' := by
  rcases h.row with ⟨_, e⟩ | ⟨g, off, cap, cur, rfl, hB, hg, hlc, hsz, hcell, _⟩
  · subst e; simp at hm; omega
  obtain ⟨w1, hcl, ⟨cur', hg1, hs1, hc1⟩, hgr⟩ := run_clearP w 0 g off m cap cur hg h0 (by omega)
  have hbg : b ≠ g := two_types h.blk hg (by decide)
  have b1 : w1.heap[b]? = some (.cells #[.int .i64 win, .int .i64 last, .int .i64 ((k + ds.length : Nat) : Int), .slice (some ⟨g, off, none⟩) ds.length cap] 81 (0, 0)) := (hgr.block b h.lt (fun e => hbg (by simpa using e))).trans h.blk
  have c3 := h.c3
  have d3 : w1.cell? ⟨b, 3, none⟩ = some (.slice (some ⟨g, off, none⟩) ds.length cap) := cell_at b1 3 _ rfl
  have f3 : w1.frozen? ⟨b, 3, none⟩ = false := by simp [World.frozen?, b1]
  have s1 := fun w => slP_front (some ⟨g, off, none⟩) ds.length cap m (by omega) w
  have s2 := fun w => slP_three (some ⟨g, off, none⟩) ds.length cap m ds.length hm hlc w
  have HF := Lib.hid (cut_fin h hm hg hsz hcell hg1 hs1 hc1 hgr)
  have ea : (if ds.length = m then some (⟨g, off, none⟩ : Addr) else (some (⟨g, off, none⟩ : Addr)).map (·.add (m * 2))) = (if ds.length = m then some ⟨g, off, none⟩ else some ⟨g, off + m * 2, none⟩) := by
    simp [Addr.add_lit]
  rw [ea] at s2
  generalize (if ds.length = m then some (⟨g, off, none⟩ : Addr) else some ⟨g, off + m * 2, none⟩) = A at *
  clear h b1 hgr hg hg1 hc1 hs1 hcell hsz ea hbg
  go_enter Try.func46, Try.ntmps46
  go_wp2
  first | go_end0 | refine bodyPost_ret (results_none rfl _ _ _) rfl ?_
  exact ⟨rfl, _, HF.out⟩
end
end Go.Proofs.Ytclobdejlihblaa
