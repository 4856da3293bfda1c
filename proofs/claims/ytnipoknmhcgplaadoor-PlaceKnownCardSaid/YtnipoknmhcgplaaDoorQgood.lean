/-
  Which configs may be: the search for one that may not, goodVars, Good.
-/
import Derived.Test.YtnipoknmhcgplaaDoorQcfg
namespace Go.Proofs.YtnipoknmhcgplaaDoor
open Go.RowKit

/-- What the search gives: a place, or less than nought where there is none. -/
def IdxPost (W : World) (ok : Bool) (e : Ending) (w' : World) : Prop := ∃ z : Int, e = .returned (.int .i64 z) ∧ decide (0 ≤ z) = !ok ∧ W = w'

theorem all_take {vs : List Nat} {n : Int} {k : Nat} (hk : k < vs.length) (h : (vs.take k).all (fun s => someN s n) = true) (hb : someN vs[k] n = true) : (vs.take (k + 1)).all (fun s => someN s n) = true := by
  rw [List.take_succ_eq_append_getElem hk, List.all_append, h]
  simp [hb]
theorem all_not {vs : List Nat} {n : Int} {k : Nat} (hk : k < vs.length) (hb : someN vs[k] n = false) : (vs.all fun s => someN s n) = false := by
  rw [List.all_eq_false]
  exact ⟨vs[k], List.getElem_mem hk, by rw [hb]; decide⟩

set_option maxHeartbeats 1000000 in
theorem idx_any (vs : List Nat) (ao : Option Addr) (cap B : Nat) (n : Int) (W : World) (hs : SlV W ao cap (vs.map uV)) (hv : ∀ s ∈ vs, s < 18446744073709551616) (hn : IntOk n) (hc : W.cell? ⟨B, 0, none⟩ = some (.int .i64 n)) :
    Calls Tryd.prog 31 #[.slice ao vs.length cap, .func (.func 28) #[] #[.pointer (some ⟨B, 0, none⟩)]] W (IdxPost W (vs.all fun s => someN s n)) := by
  have hfit := hs.fit
  have hmax := hs.max
  unfold maxLen at hmax
  rw [List.length_map] at hfit
  have S := Lib.hid hs
  have V := Lib.hid hv
  have N := Lib.hid hn
  have C := Lib.hid hc
  clear hs hv hn hc
  go_enter Tryd.func31, Tryd.ntmps31
  go_wp2_with fail
  go_loop [8] (fun i => ∃ k : Nat, k ≤ vs.length ∧ i = .int .i64 (k : Nat) ∧ Hid ((vs.take k).all (fun s => someN s n) = true)) (fun i => vs.length - (intOf i).toNat)
  case atStart => exact ⟨0, Nat.zero_le _, rfl, Lib.hid rfl⟩
  case round =>
    obtain ⟨k, hk, rfl, hA⟩ := hrel
    by_cases hlt : k < vs.length
    · obtain ⟨b, off, rfl, hbW, hcx⟩ := S.out.at k hlt
      have k1 : W.cell? ⟨b, off + k, none⟩ = some (.int .u64 (vs[k] : Nat)) := hcx
      clear hcx
      have T := Lib.hid (fun h => all_take hlt hA.out h)
      have F := Lib.hid (fun h => all_not (vs := vs) (n := n) hlt h)
      have hx := Lib.hid (V.out vs[k] (List.getElem_mem hlt))
      generalize vs[k] = x at *
      obtain ⟨r, hr⟩ : ∃ r, someN x n = r := ⟨_, rfl⟩
      cases r
      · have R := Lib.hid hr
        clear hr
        go_wp2_with fail
        refine (lit_is hx.out N.out C.out R.out).mono ?_
        rintro e w' ⟨rfl, rfl⟩
        go_wp2_with fail
        go_ret
        exact ⟨k, rfl, by rw [F.out R.out]; simp, rfl⟩
      · have R := Lib.hid hr
        clear hr
        go_wp2_with fail
        refine (lit_is hx.out N.out C.out R.out).mono ?_
        rintro e w' ⟨rfl, rfl⟩
        go_wp2_with fail
        go_round
        case rel => exact ⟨k + 1, by omega, by go_num, Lib.hid (T.out R.out)⟩
        case measure => simp only [intOf]; omega
    · have R : (vs.all fun s => someN s n) = true := by rw [← hA.out, List.take_of_length_le (by omega)]
      go_wp2_with fail
      go_ret
      exact ⟨-1, rfl, by simp, rfl⟩

set_option maxHeartbeats 1000000 in
theorem has_bad (vs : List Nat) (ao : Option Addr) (cap B : Nat) (n : Int) (W : World) (hs : SlV W ao cap (vs.map uV)) (hv : ∀ s ∈ vs, s < 18446744073709551616) (hn : IntOk n) (hc : W.cell? ⟨B, 0, none⟩ = some (.int .i64 n)) :
    Calls Tryd.prog 27 #[.slice ao vs.length cap, .func (.func 28) #[] #[.pointer (some ⟨B, 0, none⟩)]] W fun e w' => e = .returned (.bool (!(vs.all fun s => someN s n))) ∧ W = w' := by
  have HI := Lib.hid (idx_any vs ao cap B n W hs hv hn hc)
  clear hs hv hn hc
  go_enter Tryd.func27, Tryd.ntmps27
  go_wp2_with fail
  refine HI.out.mono ?_
  rintro e w' ⟨z, rfl, hz, rfl⟩
  go_wp2_with fail
  go_ret
  exact ⟨by rw [← hz]; rfl, rfl⟩

set_option maxHeartbeats 1000000 in
theorem vars_any (c : Cfg) (ao : Option Addr) (cap : Nat) (W : World) (hs : SlV W ao cap (c.vs.map uV)) (hk : CfgOk c) :
    Calls Tryd.prog 21 #[.agg (cfgA c ao cap)] W
      fun e w' => e = .returned (.bool (decide (c.vs.length ≤ 16) && c.vs.all fun s => someN s c.n)) ∧ Below W.heap.size W w' := by
  have hfit := hs.fit
  have hmax := hs.max
  unfold maxLen at hmax
  rw [List.length_map] at hfit
  have C := Lib.hid (show (W.alloc (.cells (cfgA c ao cap) 26)).cell? ⟨W.heap.size, 0, none⟩ = some (.int .i64 c.n) by simp [cfgA])
  have B1 := Lib.hid (below_alloc (Below.refl _ W) (.cells (cfgA c ao cap) 26))
  have S1 := Lib.hid (hs.below B1.out)
  have O := Lib.hid hk
  clear hs hk
  have hmf : ∀ (fn : Fn) (first cap : Array Value) (w : World), (Instr.makeFunc fn first cap).run Tryd.prog w = .ok (.func fn first cap) w := fun _ _ _ _ => rfl
  have D := Lib.hid (fun (h : c.vs.length ≤ 16) => decide_eq_true h)
  go_enter Tryd.func21, Tryd.ntmps21
  by_cases h : c.vs.length ≤ 16
  · have R := Lib.hid (D.out h)
    go_wp2_with fail
    refine (has_bad c.vs ao cap W.heap.size c.n _ S1.out O.out.vs O.out.n C.out).mono ?_
    rintro e w' ⟨rfl, rfl⟩
    go_wp2_with fail
    go_ret
    exact ⟨by rw [R.out]; simp, B1.out⟩
  · go_wp2_with fail
    go_ret
    exact ⟨rfl, B1.out⟩

theorem vars_is {c : Cfg} {ao : Option Addr} {cap : Nat} {r : Bool} {W : World} (hs : SlV W ao cap (c.vs.map uV)) (hk : CfgOk c) (h : (decide (c.vs.length ≤ 16) && c.vs.all fun s => someN s c.n) = r) :
    Calls Tryd.prog 21 #[.agg (cfgA c ao cap)] W fun e w' => e = .returned (.bool r) ∧ Below W.heap.size W w' := by
  subst h; exact vars_any c ao cap W hs hk

end Go.Proofs.YtnipoknmhcgplaaDoor
