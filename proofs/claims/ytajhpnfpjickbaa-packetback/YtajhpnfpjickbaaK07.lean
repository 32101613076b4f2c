/- What holds of the crews below 512, one after the other: lists, counts, going round. No conditions. Plain: packets, which may be, and their bytes ahead of the check. No conditions. Contracts of parcel's small calls: a ring that is not none, a crew, what a message of each kind has of itself. No conditions; what is answered is said by plain functions. A message in a block of memory; contracts of parcel's calls on what messages of all kinds, marks and wants have. No conditions; what is answered is said by plain functions. -/
import Derived.Test.YtajhpnfpjickbaaK06
namespace Go.Proofs.Ytajhpnfpjickbaa.Cr
/-- Numbers below 512, one after the other. -/
theorem ls_node : ∀ m : Fin 512, (ls m.val).all (fun n => decide (1 ≤ n) && decide (n ≤ 8) && hs m.val n.toNat) = true := by decide +kernel
theorem off_ls : ∀ m : Fin 512, off 0 (ls m.val) = some (m.val &&& 510) := by decide +kernel
theorem cn_or : ∀ m : Fin 512, ∀ n : Fin 9, cn (m.val ||| 2 ^ n.val) ≤ cn m.val + 1 := by decide +kernel
theorem add_or : ∀ m : Fin 512, ∀ n : Fin 9, n.val ≠ 0 → hs m.val n.val = false → m.val + 2 ^ n.val = m.val ||| 2 ^ n.val := by decide +kernel
theorem or_has : ∀ m : Fin 512, ∀ n : Fin 9, n.val ≠ 0 → hs m.val n.val = true → m.val = m.val ||| 2 ^ n.val := by decide +kernel
theorem hs_510 : ∀ m : Fin 512, (m.val &&& 510) &&& 510 = m.val &&& 510 := by decide +kernel
theorem ls_find : ∀ m : Fin 512, ∀ n : Fin 9, ((ls m.val).find? (fun x => decide (((n.val : Nat) : Int) < x))).getD ((ls m.val).headD 0) = nx m.val n.val := by decide +kernel
def rising : List Int → Bool
  | a :: b :: l => decide (a < b) && rising (b :: l)
  | _ => true
theorem ls_rising : ∀ m : Fin 512, rising (ls m.val) = true := by decide +kernel
theorem ls_len : ∀ m : Fin 512, (ls m.val).length ≤ 8 := by decide +kernel
def bc (m : Nat) : Nat := (m.testBit 1).toNat + (m.testBit 2).toNat + (m.testBit 3).toNat + (m.testBit 4).toNat + (m.testBit 5).toNat + (m.testBit 6).toNat + (m.testBit 7).toNat + (m.testBit 8).toNat
theorem cn_bits : ∀ m : Fin 512, cn m.val = bc m.val := by decide +kernel
/-- Going round. -/
def rd (m first : Nat) : Nat → Nat → Nat → Nat → Bool
  | 0, at', met, _ => Nat.beq at' first && Nat.beq met (m &&& 510)
  | f + 1, at', met, i => hs m at' && !(Nat.ble 1 i && Nat.beq at' first) && !(met.testBit at') && rd m first f (nx m at') (met ||| 2 ^ at') (i + 1)
theorem rd_all : ∀ m : Fin 512, ∀ n : Fin 9, cn m.val ≠ 0 → rd m.val (nx m.val n.val) (cn m.val) (nx m.val n.val) 0 0 = true := by decide +kernel
theorem nx_none : ∀ m : Fin 512, ∀ n : Fin 9, cn m.val = 0 → nx m.val n.val = 0 ∧ ab m.val 0 = 0 := by decide +kernel
end Go.Proofs.Ytajhpnfpjickbaa.Cr
namespace Go.Proofs.Ytajhpnfpjickbaa
/-- Data, tokens, joins, entries, commits, beacons, packets. -/
structure Dt where
  rs : Int
  rr : Int
  sq : Int
  sn : Int
  st : Int
  m : Ms
structure Tk where
  rs : Int
  rr : Int
  hop : Int
  sq : Int
  aru : Int
  low : Int
  st : Int
  idle : Int
  ask : List Int
structure Jn where
  sn : Int
  proc : Int
  ct : Int
structure Ey where
  nd : Int
  os : Int
  od : Int
  aru : Int
  high : Int
  ck : Int
structure Cm where
  rs : Int
  rr : Int
  mem : Int
  hop : Int
  es : List Ey
structure Bn where
  rs : Int
  rr : Int
  sn : Int
structure Pk where
  kind : Int
  to : Int
  d : Dt
  t : Tk
  j : Jn
  c : Cm
  b : Bn
def Ms.zero : Ms := ⟨0, 0, 0, 0, 0, 0, 0, false, 0, 0, 0, 0, []⟩
def Dt.zero : Dt := ⟨0, 0, 0, 0, 0, Ms.zero⟩
def Tk.zero : Tk := ⟨0, 0, 0, 0, 0, 0, 0, 0, []⟩
def Jn.zero : Jn := ⟨0, 0, 0⟩
def Cm.zero : Cm := ⟨0, 0, 0, 0, []⟩
def Bn.zero : Bn := ⟨0, 0, 0⟩
def Pk.zero : Pk := ⟨0, 0, Dt.zero, Tk.zero, Jn.zero, Cm.zero, Bn.zero⟩
/-- Whether one of them is not zero. -/
def hsn (l : List Int) : Bool := l.any (fun x => x != 0)
def rn0 (q r : Int) : Bool := !(decide (q = 0) && decide (r = 0))
def hasM (m : Ms) : Bool := !(decide (m.st = 0) && (decide (m.rs = 0) && (decide (m.rr = 0) && decide (m.sq = 0)))) || m.safe || hsn [m.kind, m.origin, m.life, m.id, m.part, m.parts, m.groups, (m.body.length : Int)]
def hasD (d : Dt) : Bool := rn0 d.rs d.rr || hsn [d.sq, d.sn, d.st] || hasM d.m
def hasT (t : Tk) : Bool := rn0 t.rs t.rr || hsn [t.hop, t.sq, t.aru, t.low, t.st, t.idle, (t.ask.length : Int)]
def hasJ (j : Jn) : Bool := !(decide (j.sn = 0) && (decide (j.proc = 0) && decide (j.ct = 0)))
def hasC (c : Cm) : Bool := rn0 c.rs c.rr || hsn [c.mem, c.hop, (c.es.length : Int)]
def hasB (b : Bn) : Bool := !(decide (b.rs = 0) && (decide (b.rr = 0) && decide (b.sn = 0)))
/-- The five fields. -/
def fnd (p : Pk) : List Bool := [hasD p.d, hasT p.t, hasJ p.j, hasC p.c, hasB p.b]
def fof (k : Int) : List Bool := [k == 1, k == 2, k == 3, k == 4, k == 5]
/-- Which may be. -/
def okD (d : Dt) : Bool := isr d.rs d.rr && decide (0 < d.sq) && nm d.sq && nd d.sn && nm d.st && (chk d.m == 0)
def win (v a b : Int) : Bool := decide (a ≤ v) && decide (v ≤ b)
def asc (last : Int) : Int → List Int → Bool
  | _, [] => true
  | least, v :: r => win v least last && asc last (v + 1) r
def cask (l : List Int) (last : Int) : Bool := decide (l.length ≤ 16) && asc last 1 l
def okT (t : Tk) : Bool := isr t.rs t.rr && decide (0 < t.hop) && nm t.hop && nm t.sq && win t.aru 0 t.sq && win t.low 0 8 && nm t.st && nm t.idle && cask t.ask t.sq
def okJ (j : Jn) : Bool := (Cr.chk j.proc == 0) && Cr.has j.proc j.sn && nm j.ct
def okE (e : Ey) (n : Int) : Bool := decide (e.nd = n) && isr e.os e.od && nm e.high && win e.aru 0 e.high && nm e.ck
def mbs : List Ey → List Int → Bool
  | [], _ => true
  | e :: r, l => okE e (l.getD 0 0) && mbs r (l.drop 1)
def okC (c : Cm) : Bool := (Cr.chk c.mem == 0) && decide (0 < Cr.cn (Cr.lo c.mem)) && isr c.rs c.rr && decide (c.rr = Cr.ab (Cr.lo c.mem) 0) && win c.hop 1 (2 * (Cr.cn (Cr.lo c.mem) : Int)) && decide ((c.es.length : Int) = min c.hop (Cr.cn (Cr.lo c.mem))) && mbs c.es (Cr.ls (Cr.lo c.mem))
def rcv (c : Cm) : Int := (Cr.ls (Cr.lo c.mem)).getD (c.hop.toNat % (Cr.ls (Cr.lo c.mem)).length) 0
def okB (b : Bn) : Bool := isr b.rs b.rr && nd b.sn
def well (p : Pk) : Bool :=
  if p.kind = 1 then decide (p.to = 0) && okD p.d else if p.kind = 2 then nd p.to && okT p.t else if p.kind = 3 then decide (p.to = 0) && okJ p.j
  else if p.kind = 4 then okC p.c && decide (p.to = rcv p.c) else if p.kind = 5 then decide (p.to = 0) && okB p.b else false
def pchk (p : Pk) : Int := if fnd p == fof p.kind && well p then 0 else 2
/-- What is written. -/
def Ey.ns (e : Ey) : List Int := [e.nd, e.os, e.od, e.aru, e.high, e.ck]
def Dt.ns (d : Dt) : List Int := [d.rs, d.rr, d.sq, d.sn, d.st]
def Tk.ns (t : Tk) : List Int := [t.rs, t.rr, t.hop, t.sq, t.aru, t.low, t.st, t.idle]
def Cm.ns (c : Cm) : List Int := [c.rs, c.rr, c.mem, c.hop]
def eys : List Ey → List Int
  | [] => []
  | e :: r => e.ns ++ eys r
def rest (p : Pk) : List Int :=
  if p.kind = 1 then packs p.d.ns ++ (enc (pk p.d.m).length ++ pk p.d.m) else if p.kind = 2 then packs p.t.ns ++ (packs [(p.t.ask.length : Int)] ++ packs p.t.ask) else if p.kind = 3 then packs [p.j.sn, p.j.proc, p.j.ct]
  else if p.kind = 4 then packs p.c.ns ++ (packs [(p.c.es.length : Int)] ++ packs (eys p.c.es)) else packs [p.b.rs, p.b.rr, p.b.sn]
def pby (p : Pk) : List Int := packs [p.kind] ++ (packs [p.to] ++ rest p)
/-- What is read behind Kind and To: whether it is wrong, what is left. -/
def gN (l : List Int) : Nat := ((rdv 1 l).getD 0 0).toNat
def kE (k : Int) (l : List Int) : Int :=
  if k = 1 then (if rde 5 l ≠ 0 then rde 5 l else if octE 512 (rdr 5 l) ≠ 0 then octE 512 (rdr 5 l) else unE (obody (rdr 5 l)))
  else if k = 2 then (if rde 8 l ≠ 0 then rde 8 l else if rde 1 (rdr 8 l) ≠ 0 then rde 1 (rdr 8 l) else if 16 < gN (rdr 8 l) then 5 else rde (gN (rdr 8 l)) (rdr 1 (rdr 8 l)))
  else if k = 3 then rde 3 l
  else if k = 4 then (if rde 4 l ≠ 0 then rde 4 l else if rde 1 (rdr 4 l) ≠ 0 then rde 1 (rdr 4 l) else if 8 < gN (rdr 4 l) then 5 else rde (gN (rdr 4 l) * 6) (rdr 1 (rdr 4 l)))
  else rde 3 l
def kR (k : Int) (l : List Int) : List Int :=
  if k = 1 then orest (rdr 5 l) else if k = 2 then rdr (gN (rdr 8 l)) (rdr 1 (rdr 8 l)) else if k = 3 then rdr 3 l else if k = 4 then rdr (gN (rdr 4 l) * 6) (rdr 1 (rdr 4 l)) else rdr 3 l
def ents : Nat → List Int → List Ey
  | 0, _ => []
  | n + 1, l => ⟨l.getD 0 0, l.getD 1 0, l.getD 2 0, l.getD 3 0, l.getD 4 0, l.getD 5 0⟩ :: ents n (l.drop 6)
def g (l : List Int) (i : Nat) : Int := l.getD i 0
def kP (k to : Int) (l : List Int) : Pk :=
  if k = 1 then { Pk.zero with kind := k, to := to, d := ⟨g (rdv 5 l) 0, g (rdv 5 l) 1, g (rdv 5 l) 2, g (rdv 5 l) 3, g (rdv 5 l) 4, prM (obody (rdr 5 l))⟩ }
  else if k = 2 then { Pk.zero with kind := k, to := to, t := ⟨g (rdv 8 l) 0, g (rdv 8 l) 1, g (rdv 8 l) 2, g (rdv 8 l) 3, g (rdv 8 l) 4, g (rdv 8 l) 5, g (rdv 8 l) 6, g (rdv 8 l) 7, rdv (gN (rdr 8 l)) (rdr 1 (rdr 8 l))⟩ }
  else if k = 3 then { Pk.zero with kind := k, to := to, j := ⟨g (rdv 3 l) 0, g (rdv 3 l) 1, g (rdv 3 l) 2⟩ }
  else if k = 4 then { Pk.zero with kind := k, to := to, c := ⟨g (rdv 4 l) 0, g (rdv 4 l) 1, g (rdv 4 l) 2, g (rdv 4 l) 3, ents (gN (rdr 4 l)) (rdv (gN (rdr 4 l) * 6) (rdr 1 (rdr 4 l)))⟩ }
  else { Pk.zero with kind := k, to := to, b := ⟨g (rdv 3 l) 0, g (rdv 3 l) 1, g (rdv 3 l) 2⟩ }
/-- The whole. -/
def pK (l : List Int) : Int := g (rdv 1 l) 0
def pT (l : List Int) : Int := g (rdv 1 (rdr 1 l)) 0
def prd (l : List Int) : Int := if rde 1 l ≠ 0 then rde 1 l else if ¬ (1 ≤ pK l ∧ pK l ≤ 5) then 4 else if rde 1 (rdr 1 l) ≠ 0 then rde 1 (rdr 1 l) else kE (pK l) (rdr 1 (rdr 1 l))
def prP (l : List Int) : Pk := kP (pK l) (pT l) (rdr 1 (rdr 1 l))
def prL (l : List Int) : List Int := kR (pK l) (rdr 1 (rdr 1 l))
def pun (l : List Int) : Int := if prd l ≠ 0 then prd l else if prL l = [] ∧ pchk (prP l) = 0 then 0 else 4
end Go.Proofs.Ytajhpnfpjickbaa
namespace Go.Proofs.Ytajhpnfpjickbaa
open Go.RowKit

theorem andNot_iff (c : Int) (hc : -9223372036854775808 ≤ c ∧ c ≤ 9223372036854775807) : bits .andNot .i64 c 510 = 0 ↔ (0 ≤ c ∧ c < 512 ∧ c % 2 = 0) := by
  have e : bits .andNot .i64 c 510 = IntKind.i64.wrap (((BitVec.ofInt 64 c &&& ~~~(BitVec.ofInt 64 510)).toNat : Nat) : Int) := rfl
  have hlt := (BitVec.ofInt 64 c &&& ~~~(BitVec.ofInt 64 510)).isLt
  have k1 : bits .andNot .i64 c 510 = 0 ↔ (BitVec.ofInt 64 c &&& ~~~(BitVec.ofInt 64 510)) = 0#64 := by
    rw [e]
    revert hlt
    generalize BitVec.ofInt 64 c &&& ~~~(BitVec.ofInt 64 510) = y
    intro hlt
    rw [IntKind.wrap_i64]
    have k0 : y = 0#64 ↔ y.toNat = 0 := ⟨fun h => by rw [h]; rfl, fun h => BitVec.eq_of_toNat_eq (by rw [h]; rfl)⟩
    rw [k0]
    generalize y.toNat = z at hlt
    have hlt' : z < 18446744073709551616 := hlt
    clear hlt
    constructor <;> intro h <;> omega
  have k2 : ∀ x : BitVec 64, (x &&& ~~~(BitVec.ofInt 64 510)) = 0#64 ↔ (x.toNat < 512 ∧ x.toNat % 2 = 0) := by
    intro x
    have a : x.toNat % 512 = x.toNat &&& 511 := by
      have := Nat.and_two_pow_sub_one_eq_mod x.toNat 9
      simpa using this.symm
    constructor
    · intro h
      have h' : x &&& BitVec.ofNat 64 510 = x := by
        have := BitVec.and_or_distrib_left (x := x) (y := BitVec.ofNat 64 510) (z := ~~~(BitVec.ofNat 64 510))
        have e1 : BitVec.ofNat 64 510 ||| ~~~(BitVec.ofNat 64 510) = BitVec.allOnes 64 := by decide
        rw [e1, BitVec.and_allOnes] at this
        rw [show BitVec.ofInt 64 510 = BitVec.ofNat 64 510 from rfl] at h
        rw [h] at this
        simpa using this.symm
      have hn : x.toNat &&& 510 = x.toNat := by
        have := congrArg BitVec.toNat h'
        simpa using this
      have l1 : x.toNat &&& 510 ≤ 510 := Nat.and_le_right
      have l2 : (x.toNat &&& 510) % 2 = 0 := by
        rw [Nat.and_mod_two_pow (n := 1)]
        simp
      omega
    · rintro ⟨h1, h2⟩
      have hk : ∀ y : Fin 512, y.val % 2 = 0 → (BitVec.ofNat 64 y.val &&& ~~~(BitVec.ofInt 64 510)) = 0#64 := by decide +kernel
      have := hk ⟨x.toNat, h1⟩ h2
      simpa using this
  rw [k1, k2, BitVec.toNat_ofInt]
  constructor
  · intro ⟨h1, h2⟩
    have : c % (2 ^ 64 : Nat) = c ∨ c % (2 ^ 64 : Nat) = c + 18446744073709551616 := by omega
    omega
  · rintro ⟨h1, h2, h3⟩
    have : c % (2 ^ 64 : Nat) = c := by omega
    omega
theorem isCrew (c : Int) (hc : -9223372036854775808 ≤ c ∧ c ≤ 9223372036854775807) (w : World) : Calls Try.prog 99 #[.int .i64 c] w fun e w' => e = .returned (.bool (crew c)) ∧ w' = w := by
  have hb := andNot_iff c hc
  by_cases h0 : c = 0
  · subst h0
    clear hb
    go_enter Try.func99, Try.ntmps99
    go_wp2
    go_ret
    exact ⟨rfl, rfl⟩
  · have hcr : crew c = (bits .andNot .i64 c 510 == 0) := by
      rw [Bool.eq_iff_iff]
      simp only [crew, decide_eq_true_eq, beq_iff_eq, hb]
      omega
    rw [hcr]
    clear hcr hb
    generalize hx : bits .andNot .i64 c 510 = x
    go_enter Try.func99, Try.ntmps99
    go_wp2
    go_ret
    have hc0 : (c != 0) = true := by simp [h0]
    exact ⟨by simp [hc0], rfl⟩

theorem isRing (q r : Int) (w : World) : Calls Try.prog 98 #[.agg #[.int .i64 q, .int .i64 r]] w fun e w' => e = .returned (.bool (isr q r)) ∧ Mod (fun _ => False) w w' := by
  have HM := fun w' (h : Mod (fun _ => False) ((w.alloc (Obj.cells #[Value.int IntKind.i64 q, Value.int IntKind.i64 r] 23)).alloc (Obj.cells #[Value.int IntKind.i64 0, Value.int IntKind.i64 0] 23)) w') =>
    (((Mod.refl (fun _ => False) w).alloc (Obj.cells #[Value.int IntKind.i64 q, Value.int IntKind.i64 r] 23)).alloc (Obj.cells #[Value.int IntKind.i64 0, Value.int IntKind.i64 0] 23)).trans h (V := fun _ => False) (fun _ _ h => h) (fun _ _ h => h)
  have H := CheckRing q r
  by_cases h0 : q = 0 ∧ r = 0
  · obtain ⟨rfl, rfl⟩ := h0
    clear H
    go_enter Try.func98, Try.ntmps98
    go_wp2
    go_ret
    exact ⟨rfl, HM _ (Mod.refl _ _)⟩
  · have e : isr q r = (cr q r == 0) := by simp only [isr, h0, not_false_eq_true, decide_true, Bool.true_and]
    rw [e]
    generalize cr q r = c at H ⊢
    clear e
    rcases (show (¬ q = 0) ∨ (q = 0 ∧ ¬ r = 0) by omega) with h | ⟨rfl, h⟩
    all_goals
      clear h0
      go_enter Try.func98, Try.ntmps98
      go_wp2_with (fail)
      refine (H _).mono ?_
      rintro e w1 ⟨rfl, hm⟩
      go_wp2
      go_ret
      exact ⟨rfl, HM _ hm⟩

theorem isClients (k o lf i p ps g : Int) (s : Bool) (st rs rr sq : Int) (ao : Option Addr) (cap : Nat) (l : List Int) (w : World) : Calls Try.prog 120 #[.agg #[.int .i64 k, .int .i64 o, .int .i64 lf, .int .i64 i, .int .i64 p, .int .i64 ps, .int .i64 g, .bool s, .int .i64 st, .int .i64 rs, .int .i64 rr, .int .i64 sq, .slice ao l.length cap]] w fun e w' => e = .returned (.bool (!(pln ⟨k, o, lf, i, p, ps, g, s, st, rs, rr, sq, l⟩))) ∧ Mod (fun _ => False) w w' := by
  go_enter Try.func120, Try.ntmps120
  go_wp2
  all_goals
    go_ret
    refine ⟨?_, (Mod.refl _ _).alloc _⟩
    simp [pln, *] <;> omega
theorem isText (k o lf i p ps g : Int) (s : Bool) (st rs rr sq : Int) (ao : Option Addr) (cap : Nat) (l : List Int) (w : World) : Calls Try.prog 84 #[.agg #[.int .i64 k, .int .i64 o, .int .i64 lf, .int .i64 i, .int .i64 p, .int .i64 ps, .int .i64 g, .bool s, .int .i64 st, .int .i64 rs, .int .i64 rr, .int .i64 sq, .slice ao l.length cap]] w fun e w' => e = .returned (.bool (tx ⟨k, o, lf, i, p, ps, g, s, st, rs, rr, sq, l⟩)) ∧ Mod (fun _ => False) w w' := by
  go_enter Try.func84, Try.ntmps84
  go_wp2
  all_goals
    go_ret
    refine ⟨?_, (Mod.refl _ _).alloc _⟩
    simp [tx, *] <;> omega
end Go.Proofs.Ytajhpnfpjickbaa
namespace Go.Proofs.Ytajhpnfpjickbaa
open Go.RowKit
/-- A message in the block b. -/
def MB (w : World) (b : Nat) (k o lf i p ps g : Int) (s : Bool) (st rs rr sq : Int) (bv : Value) : Prop := w.heap[b]? = some (.cells #[.int .i64 k, .int .i64 o, .int .i64 lf, .int .i64 i, .int .i64 p, .int .i64 ps, .int .i64 g, .bool s, .int .i64 st, .int .i64 rs, .int .i64 rr, .int .i64 sq, bv] 28 (0, 0))

theorem MB.cells {w : World} {b : Nat} {k o lf i p ps g : Int} {s : Bool} {st rs rr sq : Int} {bv : Value} (h : MB w b k o lf i p ps g s st rs rr sq bv) : w.cell? ⟨b, 0, none⟩ = some (.int .i64 k) ∧ w.cell? ⟨b, 1, none⟩ = some (.int .i64 o) ∧ w.cell? ⟨b, 2, none⟩ = some (.int .i64 lf) ∧ w.cell? ⟨b, 3, none⟩ = some (.int .i64 i) ∧ w.cell? ⟨b, 4, none⟩ = some (.int .i64 p) ∧ w.cell? ⟨b, 5, none⟩ = some (.int .i64 ps) ∧ w.cell? ⟨b, 6, none⟩ = some (.int .i64 g) ∧ w.cell? ⟨b, 7, none⟩ = some (.bool s) ∧ w.cell? ⟨b, 8, none⟩ = some (.int .i64 st) ∧ w.cell? ⟨b, 9, none⟩ = some (.int .i64 rs) ∧ w.cell? ⟨b, 10, none⟩ = some (.int .i64 rr) ∧ w.cell? ⟨b, 11, none⟩ = some (.int .i64 sq) ∧ w.cell? ⟨b, 12, none⟩ = some (bv) := by
  unfold MB at h
  simp [World.cell?, h]
theorem MB.frz {w : World} {b : Nat} {k o lf i p ps g : Int} {s : Bool} {st rs rr sq : Int} {bv : Value} (h : MB w b k o lf i p ps g s st rs rr sq bv) (j : Nat) : w.frozen? ⟨b, j, none⟩ = false := by
  unfold MB at h
  simp [World.frozen?, h]
theorem MB.new (w : World) (k o lf i p ps g : Int) (s : Bool) (st rs rr sq : Int) (bv : Value) : MB (w.alloc (.cells #[.int .i64 k, .int .i64 o, .int .i64 lf, .int .i64 i, .int .i64 p, .int .i64 ps, .int .i64 g, .bool s, .int .i64 st, .int .i64 rs, .int .i64 rr, .int .i64 sq, bv] 28)) w.heap.size k o lf i p ps g s st rs rr sq bv := heap_alloc_new w _
theorem MB.mod {S : Nat → Prop} {w w' : World} {b : Nat} {k o lf i p ps g : Int} {s : Bool} {st rs rr sq : Int} {bv : Value} (h : MB w b k o lf i p ps g s st rs rr sq bv) (hm : Mod S w w') (hb : ¬ S b) : MB w' b k o lf i p ps g s st rs rr sq bv := hm.obj h hb
theorem eqKey (s q r n s' q' r' n' : Int) (w : World) : (Op.equalIn 10000 25 (.agg #[.int .i64 s, .int .i64 q, .int .i64 r, .int .i64 n]) (.agg #[.int .i64 s', .int .i64 q', .int .i64 r', .int .i64 n'])).run Try.prog w = .ok (decide (s = s') && (decide (q = q') && (decide (r = r') && decide (n = n')))) w := by
  by_cases h1 : s = s' <;> by_cases h2 : q = q' <;> by_cases h3 : r = r' <;> by_cases h4 : n = n' <;> simp [go_sem, h1, h2, h3, h4]
theorem eqRing (q r q' r' : Int) (w : World) : (Op.equalIn 10000 23 (.agg #[.int .i64 q, .int .i64 r]) (.agg #[.int .i64 q', .int .i64 r'])).run Try.prog w = .ok (decide (q = q') && decide (r = r')) w := by
  by_cases h2 : q = q' <;> by_cases h3 : r = r' <;> simp [go_sem, h2, h3]

theorem isMark (k o lf i p ps g : Int) (s : Bool) (st rs rr sq : Int) (ao : Option Addr) (cap : Nat) (l : List Int) (w : World) : Calls Try.prog 85 #[.agg #[.int .i64 k, .int .i64 o, .int .i64 lf, .int .i64 i, .int .i64 p, .int .i64 ps, .int .i64 g, .bool s, .int .i64 st, .int .i64 rs, .int .i64 rr, .int .i64 sq, .slice ao l.length cap]] w fun e w' => e = .returned (.bool (mkk ⟨k, o, lf, i, p, ps, g, s, st, rs, rr, sq, l⟩)) ∧ Mod (fun _ => False) w w' := by
  have H := isClients k o lf i p ps g s st rs rr sq ao cap l
  have hb := MB.new w k o lf i p ps g s st rs rr sq (.slice ao l.length cap)
  unfold mkk
  dsimp only
  cases hc : pln ⟨k, o, lf, i, p, ps, g, s, st, rs, rr, sq, l⟩
  all_goals
    rw [hc] at H
    go_enter Try.func85, Try.ntmps85
    go_wp2_with (fail)
    refine (H _).mono ?_
    rintro e w1 ⟨rfl, hm⟩
    obtain ⟨a0, a1, a2, a3, a4, a5, a6, a7, a8, a9, a10, a11, a12⟩ := MB.cells (hb.mod hm (fun h => h))
    go_wp2
  all_goals
    go_ret
    refine ⟨?_, ((Mod.refl _ _).alloc _).trans hm (V := fun _ => False) (fun _ _ h => h) (fun _ _ h => h)⟩
    clear H hb hm a0 a1 a2 a3 a4 a5 a6 a7 a8 a9 a10 a11 a12
    cases l <;> simp [*] <;> omega

theorem isWant (k o lf i p ps g : Int) (s : Bool) (st rs rr sq : Int) (ao : Option Addr) (cap : Nat) (l : List Int) (w : World) : Calls Try.prog 86 #[.agg #[.int .i64 k, .int .i64 o, .int .i64 lf, .int .i64 i, .int .i64 p, .int .i64 ps, .int .i64 g, .bool s, .int .i64 st, .int .i64 rs, .int .i64 rr, .int .i64 sq, .slice ao l.length cap]] w fun e w' => e = .returned (.bool (wn ⟨k, o, lf, i, p, ps, g, s, st, rs, rr, sq, l⟩)) ∧ Mod (fun _ => False) w w' := by
  have H := isMark k o lf i p ps g s st rs rr sq ao cap l
  have hb := MB.new w k o lf i p ps g s st rs rr sq (.slice ao l.length cap)
  have EK := eqKey st rs rr sq 0 0 0 0
  have hz : ∀ W : World, W.cell? ⟨w.heap.size + 1, 0, none⟩ = W.cell? ⟨w.heap.size + 1, 0, none⟩ := fun _ => rfl
  clear hz
  unfold wn
  cases hc : mkk ⟨k, o, lf, i, p, ps, g, s, st, rs, rr, sq, l⟩
  all_goals
    rw [hc] at H
    go_enter Try.func86, Try.ntmps86
    go_wp2_with (fail)
    refine (H _).mono ?_
    rintro e w1 ⟨rfl, hm⟩
    have h2 := (hb.mod ((Mod.refl (fun _ => False) _).alloc (.cells #[.int .i64 0, .int .i64 0, .int .i64 0, .int .i64 0] 25)) (fun h => h)).mod hm (fun h => h)
    have hk := hm.obj (heap_alloc_new _ _) (fun h => h)
    have z0 : w1.cell? ⟨w.heap.size + 1, 0, none⟩ = some (.int .i64 0) := by simp at hk; simp [World.cell?, hk]
    have z1 : w1.cell? ⟨w.heap.size + 1, 1, none⟩ = some (.int .i64 0) := by simp at hk; simp [World.cell?, hk]
    have z2 : w1.cell? ⟨w.heap.size + 1, 2, none⟩ = some (.int .i64 0) := by simp at hk; simp [World.cell?, hk]
    have z3 : w1.cell? ⟨w.heap.size + 1, 3, none⟩ = some (.int .i64 0) := by simp at hk; simp [World.cell?, hk]
    obtain ⟨a0, a1, a2, a3, a4, a5, a6, a7, a8, a9, a10, a11, a12⟩ := MB.cells (h2)
    go_wp2
  all_goals
    go_ret
    refine ⟨?_, (((Mod.refl _ _).alloc _).alloc _).trans hm (V := fun _ => False) (fun _ _ h => h) (fun _ _ h => h)⟩
    simp

theorem hasNumbers (k o lf i p ps g : Int) (s : Bool) (st rs rr sq : Int) (ao : Option Addr) (cap : Nat) (l : List Int) (w : World) : Calls Try.prog 52 #[.agg #[.int .i64 k, .int .i64 o, .int .i64 lf, .int .i64 i, .int .i64 p, .int .i64 ps, .int .i64 g, .bool s, .int .i64 st, .int .i64 rs, .int .i64 rr, .int .i64 sq, .slice ao l.length cap]] w fun e w' => e = .returned (.bool (hn ⟨k, o, lf, i, p, ps, g, s, st, rs, rr, sq, l⟩)) ∧ Mod (fun _ => False) w w' := by
  have H1 := pNode
  have H2 := pNumber
  have H3 := Check st rs rr sq
  have hb := MB.new w k o lf i p ps g s st rs rr sq (.slice ao l.length cap)
  unfold hn
  dsimp only
  generalize nd = f at H1 ⊢
  generalize nm = f' at H2 ⊢
  generalize ck st rs rr sq = c at H3 ⊢
  have HM : ∀ w1, Mod (fun _ => False) (w.alloc (.cells #[.int .i64 k, .int .i64 o, .int .i64 lf, .int .i64 i, .int .i64 p, .int .i64 ps, .int .i64 g, .bool s, .int .i64 st, .int .i64 rs, .int .i64 rr, .int .i64 sq, .slice ao l.length cap] 28)) w1 → Mod (fun _ => False) w w1 := fun w1 hm => ((Mod.refl _ _).alloc _).trans hm (V := fun _ => False) (fun _ _ h => h) (fun _ _ h => h)
  have HR := HM _ (Mod.refl _ _)
  cases q1 : f o <;> cases q2 : f' lf <;> cases q3 : f' i
  all_goals
    have G1 := H1 o
    have G2 := H2 lf
    have G3 := H2 i
    rw [q1] at G1
    rw [q2] at G2
    rw [q3] at G3
    clear H1 H2
    go_enter Try.func52, Try.ntmps52
    go_wp2_with (fail)
    refine (G1 _).mono ?_
    rintro e w1 ⟨rfl, rfl⟩
    go_wp2_with (fail)
    try
      refine (G2 _).mono ?_
      rintro e w1 ⟨rfl, rfl⟩
      go_wp2_with (fail)
    try
      refine (G3 _).mono ?_
      rintro e w1 ⟨rfl, rfl⟩
      go_wp2_with (fail)
  all_goals
    try
      refine (H3 _).mono ?_
      rintro e w1 ⟨rfl, hm⟩
      replace HR := HM _ hm
      go_wp2
    go_ret
    exact ⟨by simp [*] <;> omega, HR⟩

end Go.Proofs.Ytajhpnfpjickbaa
