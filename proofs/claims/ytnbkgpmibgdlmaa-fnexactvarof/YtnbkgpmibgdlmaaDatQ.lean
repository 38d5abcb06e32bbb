/- A program's code, told plainly, and how it lies in memory. -/
import Derived.Test.YtnbkgpmibgdlmaaDatP
namespace Go.Proofs.Ytnbkgpmibgdlmaa
open Go.RowKit

structure UpD where
  isLocal : Bool
  at_ : Int
structure UpD.Ok (x : UpD) : Prop where
  isLocal : True
  at_ : IntOk x.at_
def UpD.wt (_ : UpD) : Nat := 0
def UpC (_ : World) (_ _ : Nat) (x : UpD) (cs : List Value) : Prop := x.Ok ∧ cs = [.bool x.isLocal, .int .i64 x.at_]
theorem UpC_keeps : Keeps UpC := fun _ _ _ _ _ _ _ _ _ _ _ h => h
structure InstrD where
  op : Int
  a : Int
  v : Vl
  s : ByteArray
  line : Int
structure InstrD.Ok (x : InstrD) : Prop where
  op : IntOk x.op
  a : IntOk x.a
  v : x.v.Ok
  s : x.s.size ≤ maxLen
  line : IntOk x.line
def InstrD.wt (x : InstrD) : Nat := x.v.s.size + x.s.size
def InstrC (_ : World) (_ _ : Nat) (x : InstrD) (cs : List Value) : Prop := x.Ok ∧ cs = [.int .i64 x.op, .int .i64 x.a, .int .i64 x.v.k, .int .i64 x.v.n, .string x.v.s, .string x.s, .int .i64 x.line]
theorem InstrC_keeps : Keeps InstrC := fun _ _ _ _ _ _ _ _ _ _ _ h => h
structure NameD where
  text : ByteArray
  slot : Int
  frm : Int
  upto : Int
structure NameD.Ok (x : NameD) : Prop where
  text : x.text.size ≤ maxLen
  slot : IntOk x.slot
  frm : IntOk x.frm
  upto : IntOk x.upto
def NameD.wt (x : NameD) : Nat := x.text.size
def NameC (_ : World) (_ _ : Nat) (x : NameD) (cs : List Value) : Prop := x.Ok ∧ cs = [.string x.text, .int .i64 x.slot, .int .i64 x.frm, .int .i64 x.upto]
theorem NameC_keeps : Keeps NameC := fun _ _ _ _ _ _ _ _ _ _ _ h => h
structure ProtoD where
  params : Int
  slots : Int
  ups : List UpD
  code : List InstrD
  names : List NameD
structure ProtoD.Ok (x : ProtoD) : Prop where
  params : IntOk x.params
  slots : IntOk x.slots
  ups : x.ups.length ≤ maxLen
  code : x.code.length ≤ maxLen
  names : x.names.length ≤ maxLen
def ProtoD.wt (x : ProtoD) : Nat := x.ups.length + wtR InstrD.wt x.code + wtR NameD.wt x.names
def ProtoC (w : World) (lo hi : Nat) (x : ProtoD) (cs : List Value) : Prop :=
  x.Ok ∧ ∃ a_ups c_ups a_code c_code a_names c_names, cs = [.int .i64 x.params, .int .i64 x.slots, .slice a_ups x.ups.length c_ups, .slice a_code x.code.length c_code, .slice a_names x.names.length c_names] ∧ x.ups.length ≤ maxLen ∧ RowAt 2 UpC w lo hi x.ups a_ups ∧ x.code.length ≤ maxLen ∧ RowAt 7 InstrC w lo hi x.code a_code ∧ x.names.length ≤ maxLen ∧ RowAt 4 NameC w lo hi x.names a_names
theorem ProtoC_keeps : Keeps ProtoC := by
  intro w w' lo hi lo' hi' x cs hl hh hc h
  obtain ⟨ok, a_ups, c_ups, a_code, c_code, a_names, c_names, rfl, l_ups, r_ups, l_code, r_code, l_names, r_names⟩ := h
  exact ⟨ok, a_ups, c_ups, a_code, c_code, a_names, c_names, rfl, l_ups, r_ups.later UpC_keeps hl hh hc, l_code, r_code.later InstrC_keeps hl hh hc, l_names, r_names.later NameC_keeps hl hh hc⟩
end Go.Proofs.Ytnbkgpmibgdlmaa
