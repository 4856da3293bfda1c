/-
  What was sent, and doubled, is what was taken, dropped, and is there still.
-/
import Derived.Test.YtkbenpfcnhijnaaUon
import Derived.Test.YtkbenpfcnhijnaaVact
namespace Go.Proofs.Ytkbenpfcnhijnaa
open Go.RowKit

def SumRel (W : World) (N p : Nat) (n : Nat) (i : Value) (wr : World) : Prop :=
  ∃ j S, j ≤ n ∧ i = .int .i64 (j : Nat) ∧ LnOn sV 9 W N p S wr ∧ Inv S j

set_option maxRecDepth 20000 in
set_option maxHeartbeats 4000000 in
theorem law_LaneSums (l : List Ac) (ao : Option Addr) (cap : Nat) (W : World) (hs : AcAt W ao cap l) : Calls Try.prog 5 #[.slice ao l.length cap] W (LnOk W) := by
  have HS := Lib.hid hs
  have hfit := hs.fit
  have hmax := hs.max
  unfold maxLen at hmax
  clear hs
  go_enter Try.func5, Try.ntmps5
  go_wp2_with fail
  refine (ln_awake W).mono ?_
  rintro e w0 ⟨rfl, hb0⟩
  have B0 := Lib.hid hb0
  clear hb0
  by_cases hlen : 100 < l.length
  · go_wp2_with fail
    go_ret
    exact ⟨rfl, B0.out⟩
  · go_wp2_with fail
    refine (ls_on_new B0.out (Nat.le_refl _)).mono ?_
    rintro e w1 ⟨p, rfl, h1, _⟩
    have L1 := Lib.hid h1
    clear h1
    go_wp2_with fail
    go_loopw [4] (fun i wr => SumRel W W.heap.size p l.length i wr) (fun i _ => l.length - (intOf i).toNat)
    case atStart => exact ⟨0, _, Nat.zero_le _, rfl, L1.out, Inv.none⟩
    case round =>
      obtain ⟨j, S, hj, rfl, hL, hI⟩ := hrel
      have I := Lib.hid hI
      have hSl := hI.len
      have hSs := hI.s
      have hSt := hI.t
      have hSd := hI.d
      have hSm := hI.m
      have hsum := hI.sum
      by_cases hlt : j < l.length
      · obtain ⟨b, off, rfl, hbW, h0, h1, h2⟩ := HS.out.cell j hlt
        have k0 : wr.cell? ⟨b, off + j * 3, none⟩ = some (.int .i64 l[j].op) := (hL.be.cell (p := ⟨b, off + j * 3, none⟩) hbW).trans h0
        have k1 : wr.cell? ⟨b, off + j * 3 + 1, none⟩ = some (.int .i64 l[j].k) := (hL.be.cell (p := ⟨b, off + j * 3 + 1, none⟩) hbW).trans h1
        have L := Lib.hid hL
        have jb : (j : Int) < (l.length : Int) := by omega
        have j0 : (0 : Int) ≤ (j : Int) := by omega
        clear hL h0 h1 h2 hI hsum
        generalize l[j] = x at *
        obtain ⟨op, k, v⟩ := x
        simp only at k0 k1
        have split : op = 0 ∨ op = 1 ∨ op = 2 ∨ op = 3 ∨ (¬ op = 0 ∧ ¬ op = 1 ∧ ¬ op = 2 ∧ ¬ op = 3) := by omega
        rcases split with h0 | h0 | h0 | h0 | ⟨h0, h1, h2, h3⟩
        · subst h0
          go_wp2_with (go_at_call 25; refine (ls_on_send (x := ⟨#[120]⟩) L.out (by omega) rfl rfl).mono ?_; rintro e w2 ⟨rfl, h2⟩; have L2 := Lib.hid h2; clear h2)
          go_roundw
          case rel => exact ⟨j + 1, _, by omega, by go_num, L2.out, I.out.send⟩
          case measure => simp only [intOf]; omega
        · subst h0
          go_wp2_with (go_at_call 26; refine (ls_on_take L.out (by omega) (by omega) rfl rfl rfl).mono ?_; rintro e w2 ⟨rfl, h2⟩; have L2 := Lib.hid h2; clear h2)
          go_roundw
          case rel => exact ⟨j + 1, _, by omega, by go_num, L2.out, I.out.take⟩
          case measure => simp only [intOf]; omega
        · subst h0
          go_wp2_with (go_at_call 27; refine (ls_on_drop L.out (by omega) (by omega) rfl rfl).mono ?_; rintro e w2 ⟨rfl, h2⟩; have L2 := Lib.hid h2; clear h2)
          go_roundw
          case rel => exact ⟨j + 1, _, by omega, by go_num, L2.out, I.out.drop⟩
          case measure => simp only [intOf]; omega
        · subst h0
          go_wp2_with (go_at_call 28; refine (ls_on_double L.out (by omega) rfl rfl).mono ?_; rintro e w2 ⟨rfl, h2⟩; have L2 := Lib.hid h2; clear h2)
          go_roundw
          case rel => exact ⟨j + 1, _, by omega, by go_num, L2.out, I.out.double⟩
          case measure => simp only [intOf]; omega
        · have d0 : (op == 0) = false := by simp; omega
          have d1 : (op == 1) = false := by simp; omega
          have d2 : (op == 2) = false := by simp; omega
          have d3 : (op == 3) = false := by simp; omega
          clear h0 h1 h2 h3
          go_wp2_with (go_at_call 29; refine (ls_on_hold L.out (by omega) rfl rfl).mono ?_; rintro e w2 ⟨rfl, h2⟩; have L2 := Lib.hid h2; clear h2)
          go_roundw
          case rel => exact ⟨j + 1, _, by omega, by go_num, L2.out, I.out.hold⟩
          case measure => simp only [intOf]; omega
      · have L := Lib.hid hL
        obtain ⟨n, hn⟩ : ∃ n, S.l.length = n := ⟨_, rfl⟩
        rw [hn] at hSl hsum
        have HN := Lib.hid hn
        have e1 : ((S.s : Int) + (S.m : Int) == (S.t : Int) + (S.d : Int) + (n : Int)) = true := by simp; omega
        obtain ⟨s, hs⟩ : ∃ s, S.s = s := ⟨_, rfl⟩
        obtain ⟨t, ht⟩ : ∃ s, S.t = s := ⟨_, rfl⟩
        obtain ⟨d, hd⟩ : ∃ s, S.d = s := ⟨_, rfl⟩
        obtain ⟨m, hm⟩ : ∃ s, S.m = s := ⟨_, rfl⟩
        have EC := Lib.hid (And.intro hs (And.intro ht (And.intro hd hm)))
        rw [hs, ht, hd, hm] at e1
        rw [hs] at hSs
        rw [ht] at hSt
        rw [hd] at hSd
        rw [hm] at hSm
        clear hL hI hn hs ht hd hm hsum
        go_wp2_with (first
          | (go_at_call 30; refine (ls_on_counts L.out).mono ?_
             rintro e w2 ⟨rfl, h2⟩
             rw [EC.out.1, EC.out.2.1, EC.out.2.2.1, EC.out.2.2.2]
             have L2 := Lib.hid h2
             clear h2)
          | (go_at_call 31; first
             | (refine (ls_on_len L4.out HN.out).mono ?_; rintro e w5 ⟨rfl, h5⟩; have L5 := Lib.hid h5; clear h5)
             | (refine (ls_on_len L2.out HN.out).mono ?_; rintro e w3 ⟨rfl, h3⟩; have L3 := Lib.hid h3; clear h3))
          | (go_at_call 32; refine (ls_on_all L3.out rfl HN.out (by omega)).mono ?_
             rintro e w4 ⟨a4, c4, rfl, _, h4, _⟩
             have L4 := Lib.hid h4
             clear h4))
        go_ret
        exact ⟨rfl, L5.out.be⟩

end Go.Proofs.Ytkbenpfcnhijnaa
