/- The document's Read, by one contract. -/
import Derived.Test.YtcknklodnfabpaaDoorUQ
import Derived.Test.YtcknklodnfabpaaDoorUP
namespace Go.Proofs.YtcknklodnfabpaaDoor
open Go Go.RowKit
theorem rread_any (B : ByteArray) (At : Nat) (E : Int) (b : Nat) (hA : At ≤ B.size) (hm : B.size ≤ maxLen) (w : World) (h : Rm w b B At E) :
    Calls Tryd.prog 37 #[.pointer (some ⟨b, 0, none⟩)] w fun x w' => x = .returned (uu (updR B At E).1) ∧ Rm w' b B (updR B At E).2.1 (updR B At E).2.2 ∧ w.grownBy w' (some b) := by
  have hA1 := rawA_le B At E hA
  have hA2 := txtA_le B (rawA B At E) 0 16 hA1
  have HN := Lib.hid (fun w h => rnum_any B At E 5 b hA hm (by decide) (by decide) w h)
  have HT := Lib.hid (fun w h => rtxt_any B (rawA B At E) 0 16 b hA1 hm (by decide) (by decide) w h)
  have HS := Lib.hid (fun w h => rsgn_any B (txtA B (rawA B At E) 0 16) 0 b hA2 hm w h)
  have HX := Lib.hid (fun w h => rtxt_any B (txtA B (rawA B At E) 0 16) 0 32 b hA2 hm (by decide) (by decide) w h)
  have hc := updC B At E hA
  generalize updR B At E = r at *
  cases hc with
  | a h1 => exact rrd_a b B At E _ _ _ h1 w h HN
  | b h1 h2 =>
    rw [h1, h2] at HN
    exact rrd_b b B At E _ w h HN
  | c A1 e1 k hk h1 h2 h3 =>
    subst e1
    rw [h1, h2] at HN
    exact rrd_c b B At E _ _ _ _ _ hk h3 w h HN HT
  | d A1 e1 k hk h1 h2 h3 h4 =>
    subst e1
    rw [h1, h2] at HN
    rw [h3, h4] at HT
    exact rrd_d b B At E _ _ _ hk w h HN HT
  | e A1 A2 e1 e2 k hk h1 h2 h3 y h4 hy h5 =>
    subst e1 e2
    rw [h1, h2] at HN
    rw [h3, h4] at HT
    rcases hk with rfl | rfl
    · exact rrd_e1 b B At E _ _ _ _ _ _ hy h5 w h HN HT HS
    · exact rrd_e3 b B At E _ _ _ _ _ _ hy h5 w h HN HT HS
  | f A1 A2 e1 e2 k hk h1 h2 h3 y h4 hy h5 =>
    subst e1 e2
    rw [h1, h2] at HN
    rw [h3, h4] at HT
    rw [h5] at HS
    rcases hk with rfl | rfl
    · exact rrd_f1 b B At E _ _ _ _ _ hy w h HN HT HS
    · exact rrd_f3 b B At E _ _ _ _ _ hy w h HN HT HS
  | g A1 A2 e1 e2 k hk h1 h2 h3 y h4 hy h5 =>
    subst e1 e2
    rw [h1, h2] at HN
    rw [h3, h4] at HT
    rcases hk with rfl | rfl
    · exact rrd_g2 b B At E _ _ _ _ _ _ hy h5 w h HN HT HX
    · exact rrd_g4 b B At E _ _ _ _ _ _ hy h5 w h HN HT HX
  | h A1 A2 e1 e2 k hk h1 h2 h3 y h4 hy h5 =>
    subst e1 e2
    rw [h1, h2] at HN
    rw [h3, h4] at HT
    rw [h5] at HX
    rcases hk with rfl | rfl
    · exact rrd_h2 b B At E _ _ _ _ _ hy w h HN HT HX
    · exact rrd_h4 b B At E _ _ _ _ _ hy w h HN HT HX
  | i A1 A2 e1 e2 h1 h2 h3 y h4 hy =>
    subst e1 e2
    rw [h1, h2] at HN
    rw [h3, h4] at HT
    exact rrd_i5 b B At E _ _ _ hy w h HN HT
end Go.Proofs.YtcknklodnfabpaaDoor
