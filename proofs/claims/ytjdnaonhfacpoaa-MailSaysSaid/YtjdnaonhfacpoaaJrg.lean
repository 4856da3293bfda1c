/-
  The document's own: which messages may be: the walk.
-/
import Derived.Test.YtjdnaonhfacpoaaJrgd
namespace Go.Proofs.Ytjdnaonhfacpoaa
open Go.RowKit

set_option maxRecDepth 20000 in
set_option maxHeartbeats 32000000 in
theorem rgood_any (m : Msg) (ba : Option Addr) (bc : Nat) (sa : Option Addr) (sc : Nat) (W : World) (hs : MsgS W m ba bc sa sc) (hk : MsgOk m) :
    Calls Try.prog 19 #[.agg (msgA m ba bc sa sc)] W fun e w' => e = .returned (.bool (goodM m)) ∧ Below W.heap.size W w' := by
  have hf := hs.fits
  obtain ⟨n, hn⟩ : ∃ n, m.bod.length = n := ⟨_, rfl⟩
  have HN := Lib.hid hn
  rw [show msgA m ba bc sa sc = #[.int .i64 m.frm, .int .u64 (m.num : Nat), .int .u64 (m.to : Nat), .int .i64 m.kind, .int .i64 m.vr, .float .f64 m.val, .int .i64 m.wri, .int .u64 (m.tag : Nat), .slice ba n bc, .slice sa m.stp.length sc] by rw [← hn]] at *
  rw [hn] at hf
  clear hn
  have B1 := Lib.hid (below_alloc (Below.refl _ W) (.cells #[.int .i64 m.frm, .int .u64 (m.num : Nat), .int .u64 (m.to : Nat), .int .i64 m.kind, .int .i64 m.vr, .float .f64 m.val, .int .i64 m.wri, .int .u64 (m.tag : Nat), .slice ba n bc, .slice sa m.stp.length sc] 41))
  have O := Lib.hid hk
  clear hk hs
  obtain ⟨r5, e5⟩ : ∃ r, m.to.testBit m.frm.toNat = r := ⟨_, rfl⟩
  have R5 := Lib.hid e5
  clear e5
  obtain ⟨rs, es⟩ : ∃ r, sameN m.val 0 = r := ⟨_, rfl⟩
  have RS := Lib.hid es
  clear es
  by_cases f0 : m.frm < 0
  case pos =>
    have df00 : decide ((m.frm : Int) < (0 : Int)) = true := decide_eq_true (by omega)
    have df02 : (m.frm : Int) < (0 : Int) := by omega
    have V := Lib.hid (show goodM m = false from decide_eq_false fun g => by have h := good_base g; have := h.1.1; have := HN.out; omega)
    clear f0
    go_enter Try.func19, Try.ntmps19
    simp only [List.append_eq, List.cons_append, List.nil_append]
    go_wp2_with fail
    go_ret
    exact ⟨by rw [V.out]; rfl, B1.out⟩
  have df00 : decide ((m.frm : Int) < (0 : Int)) = false := decide_eq_false (by omega)
  have df02 : (0 : Int) ≤ (m.frm : Int) := by omega
  have F0 := Lib.hid f0
  clear f0
  by_cases f1 : 15 < m.frm
  case pos =>
    have df10 : decide ((15 : Int) < (m.frm : Int)) = true := decide_eq_true (by omega)
    have df12 : (15 : Int) < (m.frm : Int) := by omega
    have V := Lib.hid (show goodM m = false from decide_eq_false fun g => by have h := good_base g; have := h.1.2; have := HN.out; omega)
    clear f1
    go_enter Try.func19, Try.ntmps19
    simp only [List.append_eq, List.cons_append, List.nil_append]
    go_wp2_with fail
    go_ret
    exact ⟨by rw [V.out]; rfl, B1.out⟩
  have df10 : decide ((15 : Int) < (m.frm : Int)) = false := decide_eq_false (by omega)
  have df12 : (m.frm : Int) ≤ (15 : Int) := by omega
  have F1 := Lib.hid f1
  clear f1
  by_cases n1 : m.num < 1
  case pos =>
    have dn10 : decide ((m.num : Int) < (1 : Int)) = true := decide_eq_true (by omega)
    have dn11 : decide (m.num < 1) = true := decide_eq_true (by omega)
    have dn12 : (m.num : Int) < (1 : Int) := by omega
    have V := Lib.hid (show goodM m = false from decide_eq_false fun g => by have h := good_base g; have := h.2.1; have := HN.out; omega)
    clear n1
    go_enter Try.func19, Try.ntmps19
    simp only [List.append_eq, List.cons_append, List.nil_append]
    go_wp2_with fail
    go_ret
    exact ⟨by rw [V.out]; rfl, B1.out⟩
  have dn10 : decide ((m.num : Int) < (1 : Int)) = false := decide_eq_false (by omega)
  have dn11 : decide (m.num < 1) = false := decide_eq_false (by omega)
  have dn12 : (1 : Int) ≤ (m.num : Int) := by omega
  have N1 := Lib.hid n1
  clear n1
  by_cases t0 : m.to = 0
  case pos =>
    have dt00 : ((m.to : Int) == 0) = true := by simp [t0]
    have V := Lib.hid (show goodM m = false from decide_eq_false fun g => by have h := good_base g; have := h.2.2.1; have := HN.out; omega)
    clear t0
    go_enter Try.func19, Try.ntmps19
    simp only [List.append_eq, List.cons_append, List.nil_append]
    go_wp2_with fail
    go_ret
    exact ⟨by rw [V.out]; rfl, B1.out⟩
  have dt00 : ((m.to : Int) == 0) = false := by simp [t0]
  have T0 := Lib.hid t0
  clear t0
  by_cases t1 : 65535 < m.to
  case pos =>
    have dt10 : decide ((65535 : Int) < (m.to : Int)) = true := decide_eq_true (by omega)
    have dt11 : decide (65535 < m.to) = true := decide_eq_true (by omega)
    have dt12 : (65535 : Int) < (m.to : Int) := by omega
    have V := Lib.hid (show goodM m = false from decide_eq_false fun g => by have h := good_base g; have := h.2.2.2.1; have := HN.out; omega)
    clear t1
    go_enter Try.func19, Try.ntmps19
    simp only [List.append_eq, List.cons_append, List.nil_append]
    go_wp2_with fail
    go_ret
    exact ⟨by rw [V.out]; rfl, B1.out⟩
  have dt10 : decide ((65535 : Int) < (m.to : Int)) = false := decide_eq_false (by omega)
  have dt11 : decide (65535 < m.to) = false := decide_eq_false (by omega)
  have dt12 : (m.to : Int) ≤ (65535 : Int) := by omega
  have T1 := Lib.hid t1
  clear t1
  cases r5
  case true =>
    have V := Lib.hid (show goodM m = false from decide_eq_false fun g => by have := (good_base g).2.2.2.2.1; rw [R5.out] at this; cases this)
    go_enter Try.func19, Try.ntmps19
    simp only [List.append_eq, List.cons_append, List.nil_append]
    go_wp2_with (go_at_call 42; refine (in_is O.out.to (show ((m.frm.toNat : Nat) : Int) = m.frm by have := F0.out; omega) (by have := F0.out; have := F1.out; omega) R5.out).mono ?_; rintro e w' ⟨rfl, rfl⟩)
    go_ret
    exact ⟨by rw [V.out]; rfl, B1.out⟩
  by_cases k0 : m.kind < 0
  case pos =>
    have dk00 : decide ((m.kind : Int) < (0 : Int)) = true := decide_eq_true (by omega)
    have dk02 : (m.kind : Int) < (0 : Int) := by omega
    have V := Lib.hid (show goodM m = false from decide_eq_false fun g => by have h := good_base g; have := h.2.2.2.2.2.1.1; have := HN.out; omega)
    clear k0
    go_enter Try.func19, Try.ntmps19
    simp only [List.append_eq, List.cons_append, List.nil_append]
    go_wp2_with (go_at_call 42; refine (in_is O.out.to (show ((m.frm.toNat : Nat) : Int) = m.frm by have := F0.out; omega) (by have := F0.out; have := F1.out; omega) R5.out).mono ?_; rintro e w' ⟨rfl, rfl⟩)
    go_ret
    exact ⟨by rw [V.out]; rfl, B1.out⟩
  have dk00 : decide ((m.kind : Int) < (0 : Int)) = false := decide_eq_false (by omega)
  have dk02 : (0 : Int) ≤ (m.kind : Int) := by omega
  have K0 := Lib.hid k0
  clear k0
  by_cases k1 : 3 < m.kind
  case pos =>
    have dk10 : decide ((3 : Int) < (m.kind : Int)) = true := decide_eq_true (by omega)
    have dk12 : (3 : Int) < (m.kind : Int) := by omega
    have V := Lib.hid (show goodM m = false from decide_eq_false fun g => by have h := good_base g; have := h.2.2.2.2.2.1.2; have := HN.out; omega)
    clear k1
    go_enter Try.func19, Try.ntmps19
    simp only [List.append_eq, List.cons_append, List.nil_append]
    go_wp2_with (go_at_call 42; refine (in_is O.out.to (show ((m.frm.toNat : Nat) : Int) = m.frm by have := F0.out; omega) (by have := F0.out; have := F1.out; omega) R5.out).mono ?_; rintro e w' ⟨rfl, rfl⟩)
    go_ret
    exact ⟨by rw [V.out]; rfl, B1.out⟩
  have dk10 : decide ((3 : Int) < (m.kind : Int)) = false := decide_eq_false (by omega)
  have dk12 : (m.kind : Int) ≤ (3 : Int) := by omega
  have K1 := Lib.hid k1
  clear k1
  by_cases l1 : 256 < n
  case pos =>
    have dl10 : decide ((256 : Int) < (n : Int)) = true := decide_eq_true (by omega)
    have dl11 : decide (256 < n) = true := decide_eq_true (by omega)
    have dl12 : (256 : Int) < (n : Int) := by omega
    have V := Lib.hid (show goodM m = false from decide_eq_false fun g => by have h := good_base g; have := h.2.2.2.2.2.2.1; have := HN.out; omega)
    clear l1
    go_enter Try.func19, Try.ntmps19
    simp only [List.append_eq, List.cons_append, List.nil_append]
    go_wp2_with (go_at_call 42; refine (in_is O.out.to (show ((m.frm.toNat : Nat) : Int) = m.frm by have := F0.out; omega) (by have := F0.out; have := F1.out; omega) R5.out).mono ?_; rintro e w' ⟨rfl, rfl⟩)
    go_ret
    exact ⟨by rw [V.out]; rfl, B1.out⟩
  have dl10 : decide ((256 : Int) < (n : Int)) = false := decide_eq_false (by omega)
  have dl11 : decide (256 < n) = false := decide_eq_false (by omega)
  have dl12 : (n : Int) ≤ (256 : Int) := by omega
  have L1 := Lib.hid l1
  clear l1
  by_cases z0 : m.kind = 0
  · have dz0 : (m.kind == 0) = true := by simp [z0]
    have dz1 : (m.kind != 0) = false := by simp [z0]
    have dz2 : (m.kind == 1) = false := by simp [z0]
    have dz3 : (m.kind == 3) = false := by simp [z0]
    have Z0 := Lib.hid z0
    clear z0
    by_cases v0 : m.vr < 0
    case pos =>
      have dv00 : decide ((m.vr : Int) < (0 : Int)) = true := decide_eq_true (by omega)
      have dv02 : (m.vr : Int) < (0 : Int) := by omega
      have V := Lib.hid (show goodM m = false from decide_eq_false fun g => by have h := good_base g; have := h.2.2.2.2.2.2.2.2.1.1; have := HN.out; omega)
      clear v0
      go_enter Try.func19, Try.ntmps19
      simp only [List.append_eq, List.cons_append, List.nil_append]
      go_wp2_with (go_at_call 42; refine (in_is O.out.to (show ((m.frm.toNat : Nat) : Int) = m.frm by have := F0.out; omega) (by have := F0.out; have := F1.out; omega) R5.out).mono ?_; rintro e w' ⟨rfl, rfl⟩)
      go_ret
      exact ⟨by rw [V.out]; rfl, B1.out⟩
    have dv00 : decide ((m.vr : Int) < (0 : Int)) = false := decide_eq_false (by omega)
    have dv02 : (0 : Int) ≤ (m.vr : Int) := by omega
    have V0 := Lib.hid v0
    clear v0
    by_cases v1 : 15 < m.vr
    case pos =>
      have dv10 : decide ((15 : Int) < (m.vr : Int)) = true := decide_eq_true (by omega)
      have dv12 : (15 : Int) < (m.vr : Int) := by omega
      have V := Lib.hid (show goodM m = false from decide_eq_false fun g => by have h := good_base g; have := h.2.2.2.2.2.2.2.2.1.2; have := HN.out; omega)
      clear v1
      go_enter Try.func19, Try.ntmps19
      simp only [List.append_eq, List.cons_append, List.nil_append]
      go_wp2_with (go_at_call 42; refine (in_is O.out.to (show ((m.frm.toNat : Nat) : Int) = m.frm by have := F0.out; omega) (by have := F0.out; have := F1.out; omega) R5.out).mono ?_; rintro e w' ⟨rfl, rfl⟩)
      go_ret
      exact ⟨by rw [V.out]; rfl, B1.out⟩
    have dv10 : decide ((15 : Int) < (m.vr : Int)) = false := decide_eq_false (by omega)
    have dv12 : (m.vr : Int) ≤ (15 : Int) := by omega
    have V1 := Lib.hid v1
    clear v1
    by_cases vz : ¬ m.vr = 0
    case pos =>
      have dvz0 : (m.vr != 0) = true := by simp [vz]
      have V := Lib.hid (show goodM m = false from decide_eq_false fun g => by have h := good_base g; have := h.2.2.2.2.2.2.2.2.2.1 Z0.out; have := HN.out; omega)
      clear vz
      go_enter Try.func19, Try.ntmps19
      simp only [List.append_eq, List.cons_append, List.nil_append]
      go_wp2_with (go_at_call 42; refine (in_is O.out.to (show ((m.frm.toNat : Nat) : Int) = m.frm by have := F0.out; omega) (by have := F0.out; have := F1.out; omega) R5.out).mono ?_; rintro e w' ⟨rfl, rfl⟩)
      go_ret
      exact ⟨by rw [V.out]; rfl, B1.out⟩
    have dvz0 : (m.vr != 0) = false := by simp; exact Classical.not_not.1 vz
    have VZ := Lib.hid (Classical.not_not.1 vz)
    clear vz
    by_cases s1 : 20000 < m.stp.length
    case pos =>
      have ds10 : decide ((20000 : Int) < (m.stp.length : Int)) = true := decide_eq_true (by omega)
      have ds11 : decide (20000 < m.stp.length) = true := decide_eq_true (by omega)
      have ds12 : (20000 : Int) < (m.stp.length : Int) := by omega
      have V := Lib.hid (show goodM m = false from decide_eq_false fun g => by have h := good_base g; have := h.2.2.2.2.2.2.2.2.2.2.1; have := HN.out; omega)
      clear s1
      go_enter Try.func19, Try.ntmps19
      simp only [List.append_eq, List.cons_append, List.nil_append]
      go_wp2_with (go_at_call 42; refine (in_is O.out.to (show ((m.frm.toNat : Nat) : Int) = m.frm by have := F0.out; omega) (by have := F0.out; have := F1.out; omega) R5.out).mono ?_; rintro e w' ⟨rfl, rfl⟩)
      go_ret
      exact ⟨by rw [V.out]; rfl, B1.out⟩
    have ds10 : decide ((20000 : Int) < (m.stp.length : Int)) = false := decide_eq_false (by omega)
    have ds11 : decide (20000 < m.stp.length) = false := decide_eq_false (by omega)
    have ds12 : (m.stp.length : Int) ≤ (20000 : Int) := by omega
    have S1 := Lib.hid s1
    clear s1
    by_cases w0 : m.wri < -1
    case pos =>
      have dw00 : decide ((m.wri : Int) < (-1 : Int)) = true := decide_eq_true (by omega)
      have dw02 : (m.wri : Int) < (-1 : Int) := by omega
      have V := Lib.hid (show goodM m = false from decide_eq_false fun g => by have h := good_base g; have := h.2.2.2.2.2.2.2.2.2.2.2.1; have := HN.out; omega)
      clear w0
      go_enter Try.func19, Try.ntmps19
      simp only [List.append_eq, List.cons_append, List.nil_append]
      go_wp2_with (go_at_call 42; refine (in_is O.out.to (show ((m.frm.toNat : Nat) : Int) = m.frm by have := F0.out; omega) (by have := F0.out; have := F1.out; omega) R5.out).mono ?_; rintro e w' ⟨rfl, rfl⟩)
      go_ret
      exact ⟨by rw [V.out]; rfl, B1.out⟩
    have dw00 : decide ((m.wri : Int) < (-1 : Int)) = false := decide_eq_false (by omega)
    have dw02 : (-1 : Int) ≤ (m.wri : Int) := by omega
    have W0 := Lib.hid w0
    clear w0
    by_cases w1 : 15 < m.wri
    case pos =>
      have dw10 : decide ((15 : Int) < (m.wri : Int)) = true := decide_eq_true (by omega)
      have dw12 : (15 : Int) < (m.wri : Int) := by omega
      have V := Lib.hid (show goodM m = false from decide_eq_false fun g => by have h := good_base g; have := h.2.2.2.2.2.2.2.2.2.2.2.2; have := HN.out; omega)
      clear w1
      go_enter Try.func19, Try.ntmps19
      simp only [List.append_eq, List.cons_append, List.nil_append]
      go_wp2_with (go_at_call 42; refine (in_is O.out.to (show ((m.frm.toNat : Nat) : Int) = m.frm by have := F0.out; omega) (by have := F0.out; have := F1.out; omega) R5.out).mono ?_; rintro e w' ⟨rfl, rfl⟩)
      go_ret
      exact ⟨by rw [V.out]; rfl, B1.out⟩
    have dw10 : decide ((15 : Int) < (m.wri : Int)) = false := decide_eq_false (by omega)
    have dw12 : (m.wri : Int) ≤ (15 : Int) := by omega
    have W1 := Lib.hid w1
    clear w1
    have E0 := Lib.hid (show goodM m = _ from base_good ⟨by have := F0.out; have := F1.out; omega, by have := N1.out; omega, T0.out, by have := T1.out; omega, R5.out, by have := K0.out; have := K1.out; omega, by have := L1.out; have := HN.out; omega, fun h => absurd Z0.out h, by have := V0.out; have := V1.out; omega, fun _ => VZ.out, by have := S1.out; omega, by have := W0.out; have := W1.out; omega⟩)
    have VV := Lib.hid (show goodM m = (sameN m.val 0 && ((m.wri == 0) && ((m.tag : Int) == 0))) by rw [E0.out, if_neg (by have := Z0.out; omega), if_neg (by have := Z0.out; omega)])
    cases rs
    case false =>
      have V := Lib.hid (show goodM m = false by rw [VV.out, RS.out]; rfl)
      go_enter Try.func19, Try.ntmps19
      simp only [List.append_eq, List.cons_append, List.nil_append]
      go_wp2_with (first | (go_at_call 42; refine (in_is O.out.to (show ((m.frm.toNat : Nat) : Int) = m.frm by have := F0.out; omega) (by have := F0.out; have := F1.out; omega) R5.out).mono ?_; rintro e w' ⟨rfl, rfl⟩) | (go_at_call 34; refine (rsame_of _ O.out.val (by decide) RS.out).mono ?_; rintro e w' ⟨rfl, rfl⟩))
      go_ret
      exact ⟨by rw [V.out]; rfl, B1.out⟩
    by_cases hw : m.wri = 0
    · have dw : (m.wri == 0) = true := by simp [hw]
      have V := Lib.hid (show goodM m = ((m.tag : Int) == 0) by rw [VV.out, RS.out, dw]; rfl)
      clear hw
      go_enter Try.func19, Try.ntmps19
      simp only [List.append_eq, List.cons_append, List.nil_append]
      go_wp2_with (first | (go_at_call 42; refine (in_is O.out.to (show ((m.frm.toNat : Nat) : Int) = m.frm by have := F0.out; omega) (by have := F0.out; have := F1.out; omega) R5.out).mono ?_; rintro e w' ⟨rfl, rfl⟩) | (go_at_call 34; refine (rsame_of _ O.out.val (by decide) RS.out).mono ?_; rintro e w' ⟨rfl, rfl⟩))
      go_ret
      exact ⟨by rw [V.out]; rfl, B1.out⟩
    · have dw : (m.wri == 0) = false := by simp [hw]
      have V := Lib.hid (show goodM m = false by rw [VV.out, RS.out, dw]; rfl)
      clear hw
      go_enter Try.func19, Try.ntmps19
      simp only [List.append_eq, List.cons_append, List.nil_append]
      go_wp2_with (first | (go_at_call 42; refine (in_is O.out.to (show ((m.frm.toNat : Nat) : Int) = m.frm by have := F0.out; omega) (by have := F0.out; have := F1.out; omega) R5.out).mono ?_; rintro e w' ⟨rfl, rfl⟩) | (go_at_call 34; refine (rsame_of _ O.out.val (by decide) RS.out).mono ?_; rintro e w' ⟨rfl, rfl⟩))
      go_ret
      exact ⟨by rw [V.out]; rfl, B1.out⟩
  have dz0 : (m.kind == 0) = false := by simp [z0]
  have dz1 : (m.kind != 0) = true := by simp [z0]
  have Z0 := Lib.hid z0
  clear z0
  by_cases lb : 0 < n
  case pos =>
    have dlb0 : decide ((0 : Int) < (n : Int)) = true := decide_eq_true (by omega)
    have dlb1 : decide (0 < n) = true := decide_eq_true (by omega)
    have dlb2 : (0 : Int) < (n : Int) := by omega
    have V := Lib.hid (show goodM m = false from decide_eq_false fun g => by have h := good_base g; have := h.2.2.2.2.2.2.2.1 Z0.out; have := HN.out; omega)
    clear lb
    go_enter Try.func19, Try.ntmps19
    simp only [List.append_eq, List.cons_append, List.nil_append]
    go_wp2_with (go_at_call 42; refine (in_is O.out.to (show ((m.frm.toNat : Nat) : Int) = m.frm by have := F0.out; omega) (by have := F0.out; have := F1.out; omega) R5.out).mono ?_; rintro e w' ⟨rfl, rfl⟩)
    go_ret
    exact ⟨by rw [V.out]; rfl, B1.out⟩
  have dlb0 : decide ((0 : Int) < (n : Int)) = false := decide_eq_false (by omega)
  have dlb1 : decide (0 < n) = false := decide_eq_false (by omega)
  have dlb2 : (n : Int) ≤ (0 : Int) := by omega
  have LB := Lib.hid lb
  clear lb
  clear dlb0 dlb1 dlb2
  obtain rfl : n = 0 := by have := LB.out; omega
  by_cases v0 : m.vr < 0
  case pos =>
    have dv00 : decide ((m.vr : Int) < (0 : Int)) = true := decide_eq_true (by omega)
    have dv02 : (m.vr : Int) < (0 : Int) := by omega
    have V := Lib.hid (show goodM m = false from decide_eq_false fun g => by have h := good_base g; have := h.2.2.2.2.2.2.2.2.1.1; have := HN.out; omega)
    clear v0
    go_enter Try.func19, Try.ntmps19
    simp only [List.append_eq, List.cons_append, List.nil_append]
    go_wp2_with (go_at_call 42; refine (in_is O.out.to (show ((m.frm.toNat : Nat) : Int) = m.frm by have := F0.out; omega) (by have := F0.out; have := F1.out; omega) R5.out).mono ?_; rintro e w' ⟨rfl, rfl⟩)
    go_ret
    exact ⟨by rw [V.out]; rfl, B1.out⟩
  have dv00 : decide ((m.vr : Int) < (0 : Int)) = false := decide_eq_false (by omega)
  have dv02 : (0 : Int) ≤ (m.vr : Int) := by omega
  have V0 := Lib.hid v0
  clear v0
  by_cases v1 : 15 < m.vr
  case pos =>
    have dv10 : decide ((15 : Int) < (m.vr : Int)) = true := decide_eq_true (by omega)
    have dv12 : (15 : Int) < (m.vr : Int) := by omega
    have V := Lib.hid (show goodM m = false from decide_eq_false fun g => by have h := good_base g; have := h.2.2.2.2.2.2.2.2.1.2; have := HN.out; omega)
    clear v1
    go_enter Try.func19, Try.ntmps19
    simp only [List.append_eq, List.cons_append, List.nil_append]
    go_wp2_with (go_at_call 42; refine (in_is O.out.to (show ((m.frm.toNat : Nat) : Int) = m.frm by have := F0.out; omega) (by have := F0.out; have := F1.out; omega) R5.out).mono ?_; rintro e w' ⟨rfl, rfl⟩)
    go_ret
    exact ⟨by rw [V.out]; rfl, B1.out⟩
  have dv10 : decide ((15 : Int) < (m.vr : Int)) = false := decide_eq_false (by omega)
  have dv12 : (m.vr : Int) ≤ (15 : Int) := by omega
  have V1 := Lib.hid v1
  clear v1
  by_cases s1 : 20000 < m.stp.length
  case pos =>
    have ds10 : decide ((20000 : Int) < (m.stp.length : Int)) = true := decide_eq_true (by omega)
    have ds11 : decide (20000 < m.stp.length) = true := decide_eq_true (by omega)
    have ds12 : (20000 : Int) < (m.stp.length : Int) := by omega
    have V := Lib.hid (show goodM m = false from decide_eq_false fun g => by have h := good_base g; have := h.2.2.2.2.2.2.2.2.2.2.1; have := HN.out; omega)
    clear s1
    go_enter Try.func19, Try.ntmps19
    simp only [List.append_eq, List.cons_append, List.nil_append]
    go_wp2_with (go_at_call 42; refine (in_is O.out.to (show ((m.frm.toNat : Nat) : Int) = m.frm by have := F0.out; omega) (by have := F0.out; have := F1.out; omega) R5.out).mono ?_; rintro e w' ⟨rfl, rfl⟩)
    go_ret
    exact ⟨by rw [V.out]; rfl, B1.out⟩
  have ds10 : decide ((20000 : Int) < (m.stp.length : Int)) = false := decide_eq_false (by omega)
  have ds11 : decide (20000 < m.stp.length) = false := decide_eq_false (by omega)
  have ds12 : (m.stp.length : Int) ≤ (20000 : Int) := by omega
  have S1 := Lib.hid s1
  clear s1
  by_cases w0 : m.wri < -1
  case pos =>
    have dw00 : decide ((m.wri : Int) < (-1 : Int)) = true := decide_eq_true (by omega)
    have dw02 : (m.wri : Int) < (-1 : Int) := by omega
    have V := Lib.hid (show goodM m = false from decide_eq_false fun g => by have h := good_base g; have := h.2.2.2.2.2.2.2.2.2.2.2.1; have := HN.out; omega)
    clear w0
    go_enter Try.func19, Try.ntmps19
    simp only [List.append_eq, List.cons_append, List.nil_append]
    go_wp2_with (go_at_call 42; refine (in_is O.out.to (show ((m.frm.toNat : Nat) : Int) = m.frm by have := F0.out; omega) (by have := F0.out; have := F1.out; omega) R5.out).mono ?_; rintro e w' ⟨rfl, rfl⟩)
    go_ret
    exact ⟨by rw [V.out]; rfl, B1.out⟩
  have dw00 : decide ((m.wri : Int) < (-1 : Int)) = false := decide_eq_false (by omega)
  have dw02 : (-1 : Int) ≤ (m.wri : Int) := by omega
  have W0 := Lib.hid w0
  clear w0
  by_cases w1 : 15 < m.wri
  case pos =>
    have dw10 : decide ((15 : Int) < (m.wri : Int)) = true := decide_eq_true (by omega)
    have dw12 : (15 : Int) < (m.wri : Int) := by omega
    have V := Lib.hid (show goodM m = false from decide_eq_false fun g => by have h := good_base g; have := h.2.2.2.2.2.2.2.2.2.2.2.2; have := HN.out; omega)
    clear w1
    go_enter Try.func19, Try.ntmps19
    simp only [List.append_eq, List.cons_append, List.nil_append]
    go_wp2_with (go_at_call 42; refine (in_is O.out.to (show ((m.frm.toNat : Nat) : Int) = m.frm by have := F0.out; omega) (by have := F0.out; have := F1.out; omega) R5.out).mono ?_; rintro e w' ⟨rfl, rfl⟩)
    go_ret
    exact ⟨by rw [V.out]; rfl, B1.out⟩
  have dw10 : decide ((15 : Int) < (m.wri : Int)) = false := decide_eq_false (by omega)
  have dw12 : (m.wri : Int) ≤ (15 : Int) := by omega
  have W1 := Lib.hid w1
  clear w1
  have E0 := Lib.hid (show goodM m = _ from base_good ⟨by have := F0.out; have := F1.out; omega, by have := N1.out; omega, T0.out, by have := T1.out; omega, R5.out, by have := K0.out; have := K1.out; omega, by have := L1.out; have := HN.out; omega, fun _ => by have := LB.out; have := HN.out; omega, by have := V0.out; have := V1.out; omega, fun h => absurd h Z0.out, by have := S1.out; omega, by have := W0.out; have := W1.out; omega⟩)
  by_cases z1 : m.kind = 1
  · have dz2 : (m.kind == 1) = true := by simp [z1]
    have Z1 := Lib.hid z1
    clear z1
    have VV := Lib.hid (show goodM m = ((m.wri == m.frm) && decide (0 < m.tag)) by rw [E0.out, if_pos Z1.out])
    by_cases hw : m.wri = m.frm
    · have dw : (m.wri == m.frm) = true := by simp [hw]
      have V := Lib.hid (show goodM m = decide (0 < m.tag) by rw [VV.out, dw]; rfl)
      clear hw
      go_enter Try.func19, Try.ntmps19
      simp only [List.append_eq, List.cons_append, List.nil_append]
      go_wp2_with (go_at_call 42; refine (in_is O.out.to (show ((m.frm.toNat : Nat) : Int) = m.frm by have := F0.out; omega) (by have := F0.out; have := F1.out; omega) R5.out).mono ?_; rintro e w' ⟨rfl, rfl⟩)
      go_ret
      exact ⟨by rw [V.out]; rfl, B1.out⟩
    · have dw : (m.wri == m.frm) = false := by simp [hw]
      have V := Lib.hid (show goodM m = false by rw [VV.out, dw]; rfl)
      clear hw
      go_enter Try.func19, Try.ntmps19
      simp only [List.append_eq, List.cons_append, List.nil_append]
      go_wp2_with (go_at_call 42; refine (in_is O.out.to (show ((m.frm.toNat : Nat) : Int) = m.frm by have := F0.out; omega) (by have := F0.out; have := F1.out; omega) R5.out).mono ?_; rintro e w' ⟨rfl, rfl⟩)
      go_ret
      exact ⟨by rw [V.out]; rfl, B1.out⟩
  have dz2 : (m.kind == 1) = false := by simp [z1]
  have Z1 := Lib.hid z1
  clear z1
  by_cases z3 : m.kind = 3
  · have dz3 : (m.kind == 3) = true := by simp [z3]
    have Z3 := Lib.hid z3
    clear z3
    have V := Lib.hid (show goodM m = (((m.tag : Int) == 0) == (m.wri == -1)) by rw [E0.out, if_neg Z1.out, if_pos Z3.out])
    go_enter Try.func19, Try.ntmps19
    simp only [List.append_eq, List.cons_append, List.nil_append]
    go_wp2_with (go_at_call 42; refine (in_is O.out.to (show ((m.frm.toNat : Nat) : Int) = m.frm by have := F0.out; omega) (by have := F0.out; have := F1.out; omega) R5.out).mono ?_; rintro e w' ⟨rfl, rfl⟩)
    go_ret
    exact ⟨by rw [V.out]; rfl, B1.out⟩
  have dz3 : (m.kind == 3) = false := by simp [z3]
  have Z2 := Lib.hid (show m.kind ≠ 1 ∧ m.kind ≠ 3 from ⟨Z1.out, z3⟩)
  clear z3
  have VV := Lib.hid (show goodM m = (sameN m.val 0 && ((m.wri == 0) && ((m.tag : Int) == 0))) by rw [E0.out, if_neg (by have := Z2.out; omega), if_neg (by have := Z2.out; omega)])
  cases rs
  case false =>
    have V := Lib.hid (show goodM m = false by rw [VV.out, RS.out]; rfl)
    go_enter Try.func19, Try.ntmps19
    simp only [List.append_eq, List.cons_append, List.nil_append]
    go_wp2_with (first | (go_at_call 42; refine (in_is O.out.to (show ((m.frm.toNat : Nat) : Int) = m.frm by have := F0.out; omega) (by have := F0.out; have := F1.out; omega) R5.out).mono ?_; rintro e w' ⟨rfl, rfl⟩) | (go_at_call 34; refine (rsame_of _ O.out.val (by decide) RS.out).mono ?_; rintro e w' ⟨rfl, rfl⟩))
    go_ret
    exact ⟨by rw [V.out]; rfl, B1.out⟩
  by_cases hw : m.wri = 0
  · have dw : (m.wri == 0) = true := by simp [hw]
    have V := Lib.hid (show goodM m = ((m.tag : Int) == 0) by rw [VV.out, RS.out, dw]; rfl)
    clear hw
    go_enter Try.func19, Try.ntmps19
    simp only [List.append_eq, List.cons_append, List.nil_append]
    go_wp2_with (first | (go_at_call 42; refine (in_is O.out.to (show ((m.frm.toNat : Nat) : Int) = m.frm by have := F0.out; omega) (by have := F0.out; have := F1.out; omega) R5.out).mono ?_; rintro e w' ⟨rfl, rfl⟩) | (go_at_call 34; refine (rsame_of _ O.out.val (by decide) RS.out).mono ?_; rintro e w' ⟨rfl, rfl⟩))
    go_ret
    exact ⟨by rw [V.out]; rfl, B1.out⟩
  · have dw : (m.wri == 0) = false := by simp [hw]
    have V := Lib.hid (show goodM m = false by rw [VV.out, RS.out, dw]; rfl)
    clear hw
    go_enter Try.func19, Try.ntmps19
    simp only [List.append_eq, List.cons_append, List.nil_append]
    go_wp2_with (first | (go_at_call 42; refine (in_is O.out.to (show ((m.frm.toNat : Nat) : Int) = m.frm by have := F0.out; omega) (by have := F0.out; have := F1.out; omega) R5.out).mono ?_; rintro e w' ⟨rfl, rfl⟩) | (go_at_call 34; refine (rsame_of _ O.out.val (by decide) RS.out).mono ?_; rintro e w' ⟨rfl, rfl⟩))
    go_ret
    exact ⟨by rw [V.out]; rfl, B1.out⟩

theorem rgood_is {m : Msg} {ba : Option Addr} {bc : Nat} {sa : Option Addr} {sc : Nat} {r : Bool} {W : World} (hs : MsgS W m ba bc sa sc) (hk : MsgOk m) (h : goodM m = r) :
    Calls Try.prog 19 #[.agg (msgA m ba bc sa sc)] W fun e w' => e = .returned (.bool r) ∧ Below W.heap.size W w' := by
  subst h; exact rgood_any m ba bc sa sc W hs hk

end Go.Proofs.Ytjdnaonhfacpoaa
