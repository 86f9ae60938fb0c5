/-
  An end of a session, on lists: what it does; nothing of the program is in this text.
-/
import Derived.WalkKit
namespace Go.Proofs.Ytiealipplckfnaa

/-- A frame. -/
structure FR where
  epoch : Int
  peer : Int
  seq : Int
  ack : Int
  body : ByteArray
def FR.rightP (f : FR) : Prop := 1 ≤ f.epoch ∧ f.epoch ≤ 9007199254740991 ∧ 0 ≤ f.peer ∧ f.peer ≤ 9007199254740991 ∧ 0 ≤ f.seq ∧ f.seq ≤ 9007199254740991 ∧ 0 ≤ f.ack ∧ f.ack ≤ 9007199254740991 ∧ f.body.size ≤ 100000 ∧ (f.seq ≠ 0 ∨ f.body = ⟨#[]⟩)
instance (f : FR) : Decidable f.rightP := by unfold FR.rightP; infer_instance
/-- An end: the bodies that wait, the number of the first of them, how many were put out ever, how many are not due. -/
structure LK where
  epoch : Nat
  peer : Nat
  wait : List ByteArray
  first : Nat
  out : Nat
  due : Nat
  taken : Nat
  owes : Bool
  ticks : Nat
def LK.new (epoch : Nat) : LK := ⟨epoch, 0, [], 1, 0, 0, 0, true, 0⟩
def LK.send (l : LK) (s : ByteArray) : Int × LK := if 100000 < s.size then (3, l) else if 32 ≤ l.wait.length then (8, l) else (0, { l with wait := l.wait ++ [s] })
/-- The frame of the k-th that waits. -/
def LK.frame (l : LK) (k : Nat) : FR := ⟨l.epoch, l.peer, l.first + k, l.taken, l.wait.getD k ⟨#[]⟩⟩
def LK.bare (l : LK) : FR := ⟨l.epoch, l.peer, 0, l.taken, ⟨#[]⟩⟩
/-- How far the window reaches. -/
def LK.top (l : LK) : Nat := min 8 l.wait.length
def LK.frames (l : LK) : List FR := if l.peer = 0 then [] else (List.range (l.top - l.due)).map fun j => l.frame (l.due + j)
def LK.outs (l : LK) : List FR := if l.frames = [] ∧ l.owes = true then [l.bare] else l.frames
/-- What is behind it. -/
def LK.put (l : LK) : LK := if l.peer = 0 ∨ l.top ≤ l.due then { l with owes := false } else { l with owes := false, ticks := if l.out = 0 then 0 else l.ticks, out := max l.out l.top, due := l.top }
def LK.tick (l : LK) : LK :=
  let a : LK := if l.peer = 0 then { l with owes := true } else l
  if a.out = 0 then a else if a.ticks + 1 = 3 then { a with ticks := 0, due := 0 } else { a with ticks := a.ticks + 1 }
/-- The peer's epoch is a greater one. -/
def LK.hear (l : LK) (e : Nat) : Bool × LK :=
  if e ≤ l.peer then (false, l) else if l.peer = 0 then (false, { l with peer := e, taken := 0 }) else (true, { l with wait := [], first := 1, out := 0, due := 0, ticks := 0, peer := e, taken := 0 })
/-- Bodies up to a number are acknowledged. -/
def LK.ackd (l : LK) (a : Nat) : LK := if l.first ≤ a ∧ a + 1 ≤ l.first + l.out then { l with wait := l.wait.drop (a + 1 - l.first), first := a + 1, out := l.out - (a + 1 - l.first), due := l.due - (a + 1 - l.first), ticks := 0 } else l
/-- A body is taken. -/
def LK.get (l : LK) (seq : Nat) (body : ByteArray) : List ByteArray × LK :=
  if seq = l.taken + 1 then ([body], { l with taken := l.taken + 1, owes := true }) else if seq = 0 then ([], l) else ([], { l with owes := true })
def LK.take (l : LK) (f : FR) : (List ByteArray × Bool) × LK :=
  if ¬ f.rightP ∨ f.epoch < l.peer then (([], false), l) else
  let h := l.hear f.epoch.toNat
  if f.peer ≠ h.2.epoch then (([], h.1), { h.2 with owes := true }) else
  let g := (h.2.ackd f.ack.toNat).get f.seq.toNat f.body
  ((g.1, h.1), g.2)
theorem mem_frames {l : LK} {f : FR} (h : f ∈ l.frames) : l.peer ≠ 0 ∧ ∃ k, k < l.top ∧ l.due ≤ k ∧ f = l.frame k := by
  unfold LK.frames at h
  split at h
  · cases h
  · rename_i hp
    obtain ⟨j, hj, rfl⟩ := List.mem_map.1 h
    have := List.mem_range.1 hj
    exact ⟨hp, l.due + j, by omega, by omega, rfl⟩
theorem mem_outs {l : LK} {f : FR} (h : f ∈ l.outs) : f = l.bare ∨ (l.peer ≠ 0 ∧ ∃ k, k < l.top ∧ l.due ≤ k ∧ f = l.frame k) := by
  unfold LK.outs at h
  split at h
  · exact .inl (List.mem_singleton.1 h)
  · exact .inr (mem_frames h)
end Go.Proofs.Ytiealipplckfnaa
