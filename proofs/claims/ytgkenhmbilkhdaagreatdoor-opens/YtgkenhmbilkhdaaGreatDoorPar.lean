import Derived.Test.YtgkenhmbilkhdaaGreatDoorGBitsPure2
namespace Go.Proofs.YtgkenhmbilkhdaaGreatDoor

/-! What comes of a source: its bytes, and the stop's number behind them (1, 14, 16). A part of a stream: from a bit on, an error's number, or a value and the bit behind it. -/
structure Inp where
  T : List Nat
  st : Nat

def stopE (st : Nat) : Nat := if st = 1 then 3 else st
abbrev Par (α : Type) := Inp → Nat → Except Nat (α × Nat)

def Par.ret {α : Type} (a : α) : Par α := fun _ i => .ok (a, i)
def Par.fail {α : Type} (e : Nat) : Par α := fun _ _ => .error e
def Par.bind {α β : Type} (p : Par α) (f : α → Par β) : Par β := fun I i =>
  match p I i with
  | .ok (a, j) => f a I j
  | .error e => .error e
def Par.check (b : Bool) (e : Nat) : Par Unit := fun _ i => if b then .ok ((), i) else .error e
def Par.map {α β : Type} (f : α → β) (p : Par α) : Par β := fun I i =>
  match p I i with
  | .ok (a, j) => .ok (f a, j)
  | .error e => .error e

theorem Par.bind_ok {α β : Type} {p : Par α} {f : α → Par β} {I : Inp} {i j : Nat} {a : α} (h : p I i = .ok (a, j)) : p.bind f I i = f a I j := by
  unfold Par.bind; rw [h]
theorem Par.bind_err {α β : Type} {p : Par α} {f : α → Par β} {I : Inp} {i e : Nat} (h : p I i = .error e) : p.bind f I i = .error e := by
  unfold Par.bind; rw [h]
theorem Par.bind_assoc {α β γ : Type} (p : Par α) (f : α → Par β) (g : β → Par γ) : (p.bind f).bind g = p.bind fun a => (f a).bind g := by
  funext I i
  unfold Par.bind
  cases p I i with
  | error e => rfl
  | ok x => rfl
theorem Par.ret_bind {α β : Type} (a : α) (f : α → Par β) : (Par.ret a).bind f = f a := rfl

def rd (n : Nat) : Par Nat := fun I i => if i + n ≤ 8 * I.T.length then .ok (valAt I.T i n, i + n) else .error (stopE I.st)
/-- How many noughts stand ahead of the next one, among n bits. -/
def ones (T : List Nat) (i : Nat) : Nat → Option Nat
  | 0 => none
  | n + 1 => if bitAt T i = 1 then some 0 else (ones T (i + 1) n).map (· + 1)
def un : Par Nat := fun I i =>
  match ones I.T i (8 * I.T.length - i) with
  | some q => .ok (q, i + q + 1)
  | none => .error (stopE I.st)
def sg (n : Nat) : Par Int := Par.map (sgn n) (rd n)
def restOf (i : Nat) : Nat := (8 - i % 8) % 8

theorem ones_some {T : List Nat} : ∀ {n i q : Nat}, Zeros T i q → bitAt T (i + q) = 1 → q < n → ones T i n = some q
  | 0, _, _, _, _, h => by omega
  | n + 1, i, 0, _, h1, _ => by unfold ones; rw [if_pos (by simpa using h1)]
  | n + 1, i, q + 1, hz, h1, hq => by
    unfold ones
    have h0 := hz 0 (by omega)
    rw [Nat.add_zero] at h0
    rw [if_neg (by omega), ones_some (n := n) (i := i + 1) (q := q) (fun j hj => by have := hz (j + 1) (by omega); rwa [show i + (j + 1) = i + 1 + j by omega] at this) (by rwa [show i + 1 + q = i + (q + 1) by omega]) (by omega)]
    rfl
theorem ones_none {T : List Nat} : ∀ {n i : Nat}, Zeros T i n → ones T i n = none
  | 0, _, _ => rfl
  | n + 1, i, hz => by
    unfold ones
    have h0 := hz 0 (by omega)
    rw [Nat.add_zero] at h0
    rw [if_neg (by omega), ones_none (n := n) (i := i + 1) (fun j hj => by have := hz (j + 1) (by omega); rwa [show i + (j + 1) = i + 1 + j by omega] at this)]
    rfl
theorem un_some {I : Inp} {i q : Nat} (hz : Zeros I.T i q) (h1 : bitAt I.T (i + q) = 1) (hq : i + q < 8 * I.T.length) : un I i = .ok (q, i + q + 1) := by
  unfold un
  rw [ones_some hz h1 (by omega)]
theorem un_none {I : Inp} {i : Nat} (hz : Zeros I.T i (8 * I.T.length - i)) : un I i = .error (stopE I.st) := by
  unfold un
  rw [ones_none hz]
theorem rd_ok {I : Inp} {i n : Nat} (h : i + n ≤ 8 * I.T.length) : rd n I i = .ok (valAt I.T i n, i + n) := by unfold rd; rw [if_pos h]
theorem rd_no {I : Inp} {i n : Nat} (h : ¬ i + n ≤ 8 * I.T.length) : rd n I i = .error (stopE I.st) := by unfold rd; rw [if_neg h]

/-! ### the head -/
structure Info where
  minB : Nat
  maxB : Nat
  minF : Nat
  maxF : Nat
  rate : Nat
  chans : Nat
  depth : Nat
  total : Nat
  sum : List Nat

def bytesP : Nat → Par (List Nat)
  | 0 => .ret []
  | n + 1 => (rd 8).bind fun b => (bytesP n).bind fun l => .ret (b :: l)
def infoP : Par Info :=
  (rd 16).bind fun a => (rd 16).bind fun b => (rd 24).bind fun c => (rd 24).bind fun d => (rd 20).bind fun r => (rd 3).bind fun h => (rd 5).bind fun t => (rd 36).bind fun n => (bytesP 16).bind fun s =>
  .ret ⟨a, b, c, d, r, h + 1, t + 1, n, s⟩
def Info.ok (i : Info) : Bool := 16 ≤ i.minB && i.minB ≤ i.maxB && i.maxB ≤ 4096 && 4 ≤ i.depth && 0 < i.rate
/-- A block's own head: is it the last, its kind, its length. -/
def metaP : Par (Nat × Nat × Nat) := (rd 1).bind fun l => (rd 7).bind fun k => (rd 24).bind fun n => .ret (l, k, n)
def firstP : Par (Nat × Info) := metaP.bind fun m => (Par.check (m.2.1 = 0 ∧ m.2.2 = 34) 5).bind fun _ => infoP.bind fun i => (Par.check i.ok 4).bind fun _ => .ret (m.1, i)
def laterP : Par Nat := metaP.bind fun m => (Par.check (m.2.1 ≠ 0 ∧ m.2.1 ≠ 127) 5).bind fun _ => (rd (8 * m.2.2)).bind fun _ => .ret m.1
/-- Later blocks, up to the last: where they end; or the error and where its block begins. -/
def laters (I : Inp) : Nat → Nat → Except (Nat × Nat) Nat
  | 0, i => .ok i
  | n + 1, i =>
    match laterP I i with
    | .ok (1, j) => .ok j
    | .ok (_, j) => laters I n j
    | .error e => .error (e, i / 8)
def markP : Par Unit := (rd 32).bind fun v => Par.check (v = 1716281667) 2
def openP (I : Inp) : Except (Nat × Nat) (Info × Nat) :=
  match markP I 0 with
  | .error e => .error (e, 0)
  | .ok (_, i) =>
    match firstP I i with
    | .error e => .error (e, i / 8)
    | .ok ((1, info), j) => .ok (info, j)
    | .ok ((_, info), j) =>
      match laters I (I.T.length + 1) j with
      | .error e => .error e
      | .ok k => .ok (info, k)

/-! ### a frame's head -/
structure FHead where
  vary : Bool
  number : Nat
  size : Nat
  rate : Nat
  pair : Nat
  depth : Nat

def lead (b : Nat) : Nat := if b < 128 then 0 else if b < 192 then 1 else if b < 224 then 2 else if b < 240 then 3 else if b < 248 then 4 else if b < 252 then 5 else if b < 254 then 6 else if b < 255 then 7 else 8
def moreP : Nat → Nat → Par Nat
  | 0, v => .ret v
  | n + 1, v => (rd 8).bind fun c => (Par.check (c / 64 = 2) 8).bind fun _ => moreP n (64 * v + c % 64)
def numberP (vary : Bool) : Par Nat := (rd 8).bind fun b =>
  if b < 128 then .ret b
  else (Par.check (2 ≤ lead b ∧ (lead b ≤ 6 ∨ lead b = 7 ∧ vary)) 8).bind fun _ => moreP (lead b - 1) (b % 2 ^ (7 - lead b))
def sizeP (code : Nat) : Par Nat :=
  if code = 1 then .ret 192
  else if code ≤ 5 then .ret (144 * 2 ^ code)
  else if code = 6 then Par.map (· + 1) (rd 8)
  else if code = 7 then Par.map (· + 1) (rd 16)
  else .ret (2 ^ code)
def rateTab : List Nat := [0, 88200, 176400, 192000, 8000, 16000, 22050, 24000, 32000, 44100, 48000, 96000]
def depthTab : List Nat := [0, 8, 12, 0, 16, 20, 24, 32]
def rateP (code : Nat) : Par Nat :=
  if code = 12 then Par.map (1000 * ·) (rd 8)
  else if code = 13 then rd 16
  else if code = 14 then Par.map (10 * ·) (rd 16)
  else .ret (rateTab.getD code 0)
/-- The bytes of the frame that begins at byte b, up to bit i. -/
def since (I : Inp) (b i : Nat) : List Nat := (I.T.take (i / 8)).drop b
def crc8P (b : Nat) : Par Unit := fun I i => ((rd 8).bind fun v => Par.check (v = crc8 0 (since I b i)) 9) I i
def crc16P (b : Nat) : Par Unit := fun I i => ((rd 16).bind fun v => Par.check (v = crc16 0 (since I b i)) 12) I i
def fheadP (b : Nat) : Par FHead :=
  (rd 15).bind fun s => (Par.check (s = 32764) 6).bind fun _ => (rd 1).bind fun v =>
  (rd 4).bind fun z => (Par.check (z ≠ 0) 7).bind fun _ => (rd 4).bind fun r => (Par.check (r ≠ 15) 7).bind fun _ =>
  (rd 4).bind fun p => (Par.check (p ≤ 10) 7).bind fun _ => (rd 3).bind fun d => (Par.check (d ≠ 3) 7).bind fun _ =>
  (rd 1).bind fun o => (Par.check (o = 0) 7).bind fun _ => (numberP (v = 1)).bind fun n => (sizeP z).bind fun size => (rateP r).bind fun rate =>
  (crc8P b).bind fun _ => .ret ⟨v = 1, n, size, rate, p, depthTab.getD d 0⟩
def FHead.chans (h : FHead) : Nat := if 8 ≤ h.pair then 2 else h.pair + 1

/-! ### subframes -/
def nums (n : Nat) : Nat → Par (List Int)
  | 0 => .ret []
  | m + 1 => (sg n).bind fun v => (nums n m).bind fun l => .ret (v :: l)
def zig (v : Nat) : Int := if v % 2 = 0 then ((v / 2 : Nat) : Int) else -(((v + 1) / 2 : Nat) : Int)
def residP (p : Nat) : Par Int := un.bind fun q => (Par.check (q * 2 ^ p < 4294967296) 11).bind fun _ => (rd p).bind fun r => (Par.check (q * 2 ^ p + r ≠ 4294967295) 11).bind fun _ => .ret (zig (q * 2 ^ p + r))
def resids (p : Nat) : Nat → Par (List Int)
  | 0 => .ret []
  | m + 1 => (residP p).bind fun v => (resids p m).bind fun l => .ret (v :: l)
def partP (width m : Nat) : Par (List Int) := (rd width).bind fun p => if p = 2 ^ width - 1 then (rd 5).bind fun n => nums n m else resids p m
def partsP (width size : Nat) : Nat → Par (List Int)
  | 0 => .ret []
  | n + 1 => (partP width size).bind fun l => (partsP width size n).bind fun r => .ret (l ++ r)
def residualsP (n order : Nat) : Par (List Int) := (rd 2).bind fun m => (Par.check (m ≤ 1) 7).bind fun _ => (rd 4).bind fun p =>
  (Par.check (n % 2 ^ p = 0 ∧ order ≤ n / 2 ^ p) 7).bind fun _ => (partP (4 + m) (n / 2 ^ p - order)).bind fun l => (partsP (4 + m) (n / 2 ^ p) (2 ^ p - 1)).bind fun r => .ret (l ++ r)
def fitsB (v : Int) (n : Nat) : Bool := -(2 ^ (n - 1) : Int) ≤ v ∧ v < 2 ^ (n - 1)
/-- The sum of a rule over the samples ahead, the last of them first. -/
def dot : List Int → List Int → Int
  | c :: cs, x :: xs => c * x + dot cs xs
  | _, _ => 0
/-- back: the samples so far, the last first. -/
def foretell (c : List Int) (shift depth : Nat) : List Int → List Int → Option (List Int)
  | back, [] => some back
  | back, r :: rs => let v := r + dot c back / 2 ^ shift; if fitsB v depth then foretell c shift depth (v :: back) rs else none
def foretoldP (x : List Int) (n : Nat) (c : List Int) (shift depth : Nat) : Par (List Int) := (residualsP n c.length).bind fun rs =>
  match foretell c shift depth x.reverse rs with
  | some l => .ret l.reverse
  | none => .fail 11
def rules : List (List Int) := [[], [1], [2, -1], [3, -3, 1], [4, -6, 4, -1]]
def fixedP (n order depth : Nat) : Par (List Int) := (Par.check (order ≤ n) 7).bind fun _ => (nums depth order).bind fun x => foretoldP x n (rules.getD order []) 0 depth
def linearP (n order depth : Nat) : Par (List Int) := (Par.check (order ≤ n) 7).bind fun _ => (nums depth order).bind fun x => (rd 4).bind fun p => (Par.check (p ≠ 15) 7).bind fun _ =>
  (rd 5).bind fun s => (Par.check (s < 16) 7).bind fun _ => (nums (p + 1) order).bind fun c => foretoldP x n c s depth
def samplesP (kind n depth : Nat) : Par (List Int) :=
  if kind = 0 then (sg depth).bind fun v => .ret (List.replicate n v)
  else if kind = 1 then nums depth n
  else if 8 ≤ kind ∧ kind ≤ 12 then fixedP n (kind - 8) depth
  else if 32 ≤ kind then linearP n (kind - 31) depth
  else .fail 7
def wastedP : Par Nat := (rd 1).bind fun w => if w = 0 then .ret 0 else Par.map (· + 1) un
def subP (depth n : Nat) : Par (List Int) := (rd 1).bind fun z => (Par.check (z = 0) 7).bind fun _ => (rd 6).bind fun k => wastedP.bind fun w => (Par.check (w < depth) 7).bind fun _ =>
  (samplesP k n (depth - w)).bind fun l => .ret (l.map (· * 2 ^ w))
def sideOf (pair c : Nat) : Nat := if c = 0 ∧ pair = 9 ∨ c = 1 ∧ (pair = 8 ∨ pair = 10) then 1 else 0
def subsP (pair depth n : Nat) : Nat → Nat → Par (List (List Int))
  | 0, _ => .ret []
  | m + 1, c => (subP (depth + sideOf pair c) n).bind fun l => (subsP pair depth n m (c + 1)).bind fun r => .ret (l :: r)
def alignP : Par Bool := fun I i => Par.map (· = 0) (rd (restOf i)) I i
def footP (b : Nat) : Par Unit := alignP.bind fun z => (Par.check z 7).bind fun _ => crc16P b

/-! ### pairs -/
def pairOf (pair : Nat) (a b : Int) : Int × Int :=
  if pair = 8 then (a, a - b)
  else if pair = 9 then (a + b, b)
  else ((2 * a + b % 2 + b) / 2, (2 * a + b % 2 - b) / 2)
def joinL (pair depth : Nat) : List Int → List Int → Option (List Int × List Int)
  | a :: xs, b :: ys =>
    let x := pairOf pair a b
    if fitsB x.1 depth && fitsB x.2 depth then (joinL pair depth xs ys).map fun r => (x.1 :: r.1, x.2 :: r.2) else none
  | _, _ => some ([], [])
def joinP (pair depth : Nat) (l : List (List Int)) : Par (List (List Int)) :=
  if 8 ≤ pair then
    match joinL pair depth (l.getD 0 []) (l.getD 1 []) with
    | some r => .ret [r.1, r.2]
    | none => .fail 11
  else .ret l

/-! ### the decoder -/
structure Dec where
  info : Info
  pos : Nat
  frame : Nat
  first : Nat
  vary : Bool
  laid : List Nat

def Dec.fits (d : Dec) (h : FHead) : Bool :=
  (d.frame = 0 ∨ h.vary = d.vary) ∧ h.number = (if h.vary then d.first else d.frame) ∧ h.size ≤ d.info.maxB ∧ h.chans = d.info.chans ∧ (h.rate = 0 ∨ h.rate = d.info.rate) ∧ (h.depth = 0 ∨ h.depth = d.info.depth)
def frameP (d : Dec) : Par (FHead × List (List Int)) := (fheadP d.pos).bind fun h => (Par.check (d.fits h) 10).bind fun _ =>
  (subsP h.pair d.info.depth h.size d.info.chans 0).bind fun l => (footP d.pos).bind fun _ => (joinP h.pair d.info.depth l).bind fun l => .ret (h, l)
/-- A sample's bytes, the lowest first. -/
def le (v : Int) : Nat → List Nat
  | 0 => []
  | n + 1 => (v % 256).toNat :: le (v / 256) n
def layAt (w : Nat) (l : List (List Int)) (i : Nat) : List Nat := l.flatMap fun c => le (c.getD i 0) w
def layL (w : Nat) (l : List (List Int)) : List Nat := (List.range (l.getD 0 []).length).flatMap (layAt w l)
end Go.Proofs.YtgkenhmbilkhdaaGreatDoor
