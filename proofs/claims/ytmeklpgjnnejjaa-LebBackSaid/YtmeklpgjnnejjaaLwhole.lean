/-
  Whether bytes are just numbers; what the chapter tells of three hundred.
-/
import Derived.Test.YtmeklpgjnnejjaaLall
namespace Go.Proofs.Ytmeklpgjnnejjaa
open Go.RowKit

def WholeRel (W : World) (bs : List Nat) (b : Value) : Prop :=
  ∃ (rest : List Nat) (a : Option Addr) (c : Nat), b = .slice a rest.length c ∧ SlAt bV 256 W a c rest ∧ (allN bs).isSome = (allN rest).isSome

theorem whole_step {W : World} {bs rest : List Nat} {a : Option Addr} {c n k : Nat} (hS : SlAt bV 256 W a c rest) (hE : (allN bs).isSome = (allN rest).isSome) (hg : getN rest = (n, k)) (hk : 0 < k) (h0 : 0 < rest.length) :
    WholeRel W bs (.slice (if c = k then a else a.map (·.add k)) (rest.length - k) (c - k)) := by
  have hk2 : k ≤ rest.length := by have := getN_size rest; rw [hg] at this; exact this
  have hne : rest ≠ [] := by rintro rfl; simp at h0
  have hst := allN_step hne
  rw [hg, if_neg (show ¬ k = 0 by omega)] at hst
  refine ⟨rest.drop k, _, _, by simp, hS.drop k hk2, ?_⟩
  rw [hE, hst]
  simp
theorem whole_bad {bs rest : List Nat} {n k : Nat} (hE : (allN bs).isSome = (allN rest).isSome) (hg : getN rest = (n, k)) (hk : ¬ 0 < k) (h0 : 0 < rest.length) : (allN bs).isSome = false := by
  have hne : rest ≠ [] := by rintro rfl; simp at h0
  have hst := allN_step hne
  rw [hg, if_pos (show k = 0 by omega)] at hst
  rw [hE, hst]
  rfl
theorem whole_done {bs rest : List Nat} (hE : (allN bs).isSome = (allN rest).isSome) (h0 : rest.length = 0) : (allN bs).isSome = true := by
  obtain rfl := List.length_eq_zero_iff.1 h0
  rw [hE]
  rfl

set_option maxRecDepth 20000 in
set_option maxHeartbeats 2000000 in
theorem whole_any (bs : List Nat) (ao : Option Addr) (cap : Nat) (W : World) (hs : SlAt bV 256 W ao cap bs) :
    Calls Try.prog 15 #[.slice ao bs.length cap] W fun e w' => e = .returned (.bool (allN bs).isSome) ∧ W = w' := by
  have S := Lib.hid hs
  clear hs
  go_enter Try.func15, Try.ntmps15
  go_wp2_with fail
  go_loop [0] (fun b => WholeRel W bs b) (fun b => match b with | .slice _ n _ => n | _ => 0)
  case atStart => exact ⟨bs, ao, cap, rfl, S.out, rfl⟩
  case round =>
    obtain ⟨rest, a, c, rfl, hS, hE⟩ := hrel
    have HE := Lib.hid hE
    have HS := Lib.hid hS
    have hfit := hS.fit
    have hmax := hS.max
    unfold maxLen at hmax
    clear hE hS
    by_cases h0 : 0 < rest.length
    · obtain ⟨⟨n, k⟩, hg⟩ : ∃ x, x = getN rest := ⟨_, rfl⟩
      have hk2 : k ≤ rest.length := by have := getN_size rest; rw [← hg] at this; exact this
      have HG := Lib.hid hg.symm
      clear hg
      by_cases hk : 0 < k
      · have R := Lib.hid (whole_step HS.out HE.out HG.out hk h0)
        go_wp2_with (go_at_call 14; refine (rget_at HS.out HG.out).mono ?_; rintro e w' ⟨rfl, rfl⟩)
        go_round
        case rel => exact R.out
        case measure => simp; omega
      · have R := Lib.hid (whole_bad HE.out HG.out hk h0)
        go_wp2_with (go_at_call 14; refine (rget_at HS.out HG.out).mono ?_; rintro e w' ⟨rfl, rfl⟩)
        go_ret
        exact ⟨by rw [R.out]; rfl, rfl⟩
    · have R := Lib.hid (whole_done HE.out (show rest.length = 0 by omega))
      go_wp2_with fail
      go_ret
      exact ⟨by rw [R.out]; rfl, rfl⟩

theorem leb_300 : lebL 300 = [172, 2] := by
  rw [lebL_hi (by decide), lebL_lo (by decide)]
theorem sz_300 : szN 300 = 2 := by unfold szN; rw [leb_300]; rfl

/-- A call that makes memory of its own. -/
def LebOk (W : World) (e : Ending) (w' : World) : Prop := e = .returned (.bool true) ∧ Below W.heap.size W w'

set_option maxRecDepth 20000 in
set_option maxHeartbeats 2000000 in
theorem awake_any (W : World) : Calls Try.prog 8 #[] W (LebOk W) := by
  have hs := size_any 300
  rw [sz_300] at hs
  go_enter Try.func8, Try.ntmps8
  go_wp2_with fail
  refine (put_any [] none 0 300 W (SlAt.none _ _ _) (by decide) (by simp)).mono ?_
  rw [List.nil_append, leb_300]
  rintro e w1 ⟨a, cap, rfl, hS, hB⟩
  obtain ⟨b, off, rfl, hbW, hc0⟩ := hS.cell 0 (by simp)
  obtain ⟨b', off', e', _, hc1⟩ := hS.cell 1 (by simp)
  cases e'
  have k0 : w1.cell? ⟨b, off, none⟩ = some (.int .u8 172) := hc0
  have k1 : w1.cell? ⟨b, off + 1, none⟩ = some (.int .u8 2) := hc1
  have hg : getN [172, 2] = (300, 2) := by rw [← leb_300, ← List.append_nil (lebL 300), getN_lebL (by decide), sz_300]
  have HS := Lib.hid hS
  have HB := Lib.hid hB
  have HG := Lib.hid hg
  clear hS hB hc0 hc1 hg
  go_wp2_with (first
    | (go_at_call 10; refine (get_at HS.out HG.out).mono ?_; rintro e w' ⟨rfl, rfl⟩)
    | (go_at_call 12; refine (hs _ (by decide)).mono ?_; rintro e w' ⟨rfl, rfl⟩))
  go_ret
  exact ⟨rfl, HB.out⟩

end Go.Proofs.Ytmeklpgjnnejjaa
