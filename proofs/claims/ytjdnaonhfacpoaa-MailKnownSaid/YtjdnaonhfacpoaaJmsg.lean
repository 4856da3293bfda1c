/-
  Messages as plain data: which may be, their bytes, what is read; how they lie in memory.
-/
import Derived.Test.YtjdnaonhfacpoaaJset
import Derived.Test.YtjdnaonhfacpoaaPrw
namespace Go.Proofs.Ytjdnaonhfacpoaa
open Go.RowKit

structure Msg where
  frm : Int
  num : Nat
  to : Nat
  kind : Int
  vr : Int
  val : Nat
  wri : Int
  tag : Nat
  bod : List Nat
  stp : List Nat

/-- A message as the model bears it; its cells. -/
abbrev msgA (m : Msg) (ba : Option Addr) (bc : Nat) (sa : Option Addr) (sc : Nat) : Array Value :=
  #[.int .i64 m.frm, .int .u64 (m.num : Nat), .int .u64 (m.to : Nat), .int .i64 m.kind, .int .i64 m.vr, .float .f64 m.val, .int .i64 m.wri, .int .u64 (m.tag : Nat), .slice ba m.bod.length bc, .slice sa m.stp.length sc]

structure MsgOk (m : Msg) : Prop where
  num : m.num < 18446744073709551616
  to : m.to < 18446744073709551616
  val : m.val < 18446744073709551616
  tag : m.tag < 18446744073709551616

/-! Which may be. -/
def WayP (m : Msg) : Prop := (0 ≤ m.frm ∧ m.frm ≤ 15) ∧ m.to ≠ 0 ∧ m.to ≤ 65535 ∧ m.to.testBit m.frm.toNat = false
def VarP (m : Msg) : Prop := (0 ≤ m.vr ∧ m.vr ≤ 15) ∧ m.bod.length = 0
def NoP (m : Msg) : Prop := sameN m.val 0 = true ∧ m.wri = 0 ∧ m.tag = 0
def ReadP (m : Msg) : Prop := (-1 ≤ m.wri ∧ m.wri ≤ 15) ∧ (m.tag = 0 ↔ m.wri = -1)
def PartP (m : Msg) : Prop :=
  m.kind = 0 ∧ m.bod.length ≤ 256 ∧ m.vr = 0 ∧ NoP m ∨ m.kind = 1 ∧ VarP m ∧ m.wri = m.frm ∧ 0 < m.tag ∨ m.kind = 2 ∧ VarP m ∧ NoP m ∨ m.kind = 3 ∧ VarP m ∧ ReadP m
def GoodP (m : Msg) : Prop := WayP m ∧ 0 < m.num ∧ PartP m ∧ m.stp.length ≤ 20000
instance (m : Msg) : Decidable (WayP m) := by unfold WayP; infer_instance
instance (m : Msg) : Decidable (VarP m) := by unfold VarP; infer_instance
instance (m : Msg) : Decidable (NoP m) := by unfold NoP; infer_instance
instance (m : Msg) : Decidable (ReadP m) := by unfold ReadP; infer_instance
instance (m : Msg) : Decidable (PartP m) := by unfold PartP; infer_instance
instance (m : Msg) : Decidable (GoodP m) := by unfold GoodP; infer_instance
def wayM (m : Msg) : Bool := decide (WayP m)
def varM (m : Msg) : Bool := decide (VarP m)
def noM (m : Msg) : Bool := decide (NoP m)
def rdM (m : Msg) : Bool := decide (ReadP m)
def partM (m : Msg) : Bool := decide (PartP m)
def goodM (m : Msg) : Bool := decide (GoodP m)

def tagged (k : Int) : Bool := decide (k = 1 ∨ k = 3)

/-- A message's bytes. -/
def putL (m : Msg) : List Nat :=
  lebL m.frm.toNat ++ lebL m.num ++ lebL m.to ++ lebL m.kind.toNat ++ (if m.kind = 0 then lebL m.bod.length ++ m.bod else lebL m.vr.toNat) ++
    (if tagged m.kind then beL (keyN m.val) ++ lebL (m.wri + 1).toNat ++ lebL m.tag else []) ++ (lebL m.stp.length ++ m.stp)
/-- What Put gives. -/
def bytesM (m : Msg) : List Nat := if goodM m then putL m else []

/-! How it lies in memory. -/
structure MsgB (w : World) (B : Nat) (m : Msg) (ba : Option Addr) (bc : Nat) (sa : Option Addr) (sc : Nat) : Prop where
  c0 : w.cell? ⟨B, 0, none⟩ = some (.int .i64 m.frm)
  c1 : w.cell? ⟨B, 1, none⟩ = some (.int .u64 (m.num : Nat))
  c2 : w.cell? ⟨B, 2, none⟩ = some (.int .u64 (m.to : Nat))
  c3 : w.cell? ⟨B, 3, none⟩ = some (.int .i64 m.kind)
  c4 : w.cell? ⟨B, 4, none⟩ = some (.int .i64 m.vr)
  c5 : w.cell? ⟨B, 5, none⟩ = some (.float .f64 m.val)
  c6 : w.cell? ⟨B, 6, none⟩ = some (.int .i64 m.wri)
  c7 : w.cell? ⟨B, 7, none⟩ = some (.int .u64 (m.tag : Nat))
  c8 : w.cell? ⟨B, 8, none⟩ = some (.slice ba m.bod.length bc)
  c9 : w.cell? ⟨B, 9, none⟩ = some (.slice sa m.stp.length sc)
theorem msgB_new (W : World) (m : Msg) (ba : Option Addr) (bc : Nat) (sa : Option Addr) (sc : Nat) (t : TypeId) : MsgB (W.alloc (.cells (msgA m ba bc sa sc) t)) W.heap.size m ba bc sa sc := by
  constructor <;> simp [msgA]
theorem cell_lt {w : World} {a : Addr} {u : Value} (h : w.cell? a = some u) : a.block < w.heap.size := World.block_lt_of_cell? _ _ h
theorem cell_go {w w' : World} {a : Addr} {u : Value} (h : w.cell? a = some u) (hb : Below w.heap.size w w') : w'.cell? a = some u := (hb.cell (cell_lt h)).trans h
theorem MsgB.below {w w' : World} {B : Nat} {m : Msg} {ba : Option Addr} {bc : Nat} {sa : Option Addr} {sc : Nat} (h : MsgB w B m ba bc sa sc) (hb : Below w.heap.size w w') : MsgB w' B m ba bc sa sc :=
  ⟨cell_go h.c0 hb, cell_go h.c1 hb, cell_go h.c2 hb, cell_go h.c3 hb, cell_go h.c4 hb, cell_go h.c5 hb, cell_go h.c6 hb, cell_go h.c7 hb, cell_go h.c8 hb, cell_go h.c9 hb⟩
/-- Its two slices. -/
structure MsgS (w : World) (m : Msg) (ba : Option Addr) (bc : Nat) (sa : Option Addr) (sc : Nat) : Prop where
  b : SlAt bV 256 w ba bc m.bod
  s : SlAt bV 256 w sa sc m.stp
theorem MsgS.below {w w' : World} {m : Msg} {ba : Option Addr} {bc : Nat} {sa : Option Addr} {sc : Nat} (h : MsgS w m ba bc sa sc) (hb : Below w.heap.size w w') : MsgS w' m ba bc sa sc :=
  ⟨h.b.below hb, h.s.below hb⟩

def btw (l n m : Int) : Bool := decide (l ≤ n ∧ n ≤ m)
set_option maxHeartbeats 1000000 in
theorem btw_any (l n m : Int) (W : World) :
    Calls Try.prog 43 #[.int .i64 l, .int .i64 n, .int .i64 m] W fun e w' => e = .returned (.bool (btw l n m)) ∧ W = w' := by
  go_enter Try.func43, Try.ntmps43
  by_cases h : l ≤ n
  · have R := Lib.hid (show btw l n m = decide (n ≤ m) by simp [btw, h])
    go_wp2_with fail
    go_ret
    exact ⟨by rw [R.out]; rfl, rfl⟩
  · have R := Lib.hid (show btw l n m = false by simp [btw, h])
    go_wp2_with fail
    go_ret
    exact ⟨by rw [R.out]; rfl, rfl⟩

theorem btw_is {l n m : Int} {r : Bool} {W : World} (h : btw l n m = r) :
    Calls Try.prog 43 #[.int .i64 l, .int .i64 n, .int .i64 m] W fun e w' => e = .returned (.bool r) ∧ W = w' := by
  subst h; exact btw_any l n m W

set_option maxHeartbeats 1000000 in
theorem hasv_any (k : Int) (W : World) :
    Calls Try.prog 28 #[.int .i64 k] W fun e w' => e = .returned (.bool (tagged k)) ∧ W = w' := by
  go_enter Try.func28, Try.ntmps28
  by_cases h : k = 1
  · have R := Lib.hid (show tagged k = true by unfold tagged; simp [h])
    go_wp2_with fail
    go_ret
    exact ⟨by rw [R.out]; rfl, rfl⟩
  · have R := Lib.hid (show tagged k = (k == 3) by unfold tagged; simp [h]; rfl)
    have d1 : (k == 1) = false := by simp [h]
    clear h
    go_wp2_with fail
    go_ret
    exact ⟨by rw [R.out]; rfl, rfl⟩

theorem hasv_is {k : Int} {r : Bool} {W : World} (h : tagged k = r) :
    Calls Try.prog 28 #[.int .i64 k] W fun e w' => e = .returned (.bool r) ∧ W = w' := by
  subst h; exact hasv_any k W

end Go.Proofs.Ytjdnaonhfacpoaa
