/- The document's parser on rows of tokens, as plain functions. -/
import Derived.Test.YtehgoioinogmkaaGreatDoorJXLex6XMem
namespace Go.Proofs.YtehgoioinogmkaaGreatDoor
open Go.RowKit Go.Lib

/-- Where a parser stands: its token, how much is open, its error's place and class. -/
structure PS where
  i : Nat
  deep : Int
  at' : Nat
  err : Nat
def exZ : Ex := (⟨0, 0, 0, 0, [], [], [], 0, 0⟩, .nil)
def binE (op : Int) (A B : Ex) : Ex := (⟨4, op, 0, 0, [], [], [], 0, 0⟩, Fo.cons A.1 A.2 (Fo.cons B.1 B.2 .nil))
def unE (op : Int) (A : Ex) : Ex := (⟨3, op, 0, 0, [], [], [], 0, 0⟩, Fo.cons A.1 A.2 .nil)
def valE (k n : Int) (t : List UInt8) : Ex := (⟨1, 0, k, n, t, [], [], 0, 0⟩, .nil)
def colE (tab nam : List UInt8) : Ex := (⟨2, 0, 0, 0, [], tab, nam, 0, 0⟩, .nil)
def numF (s : List UInt8) : Int := s.foldl (fun n c => IntKind.u64.wrap (IntKind.u64.wrap (10 * n) + ((c.toNat : Int) - 48) % 256)) 0
def gtL (a b : List UInt8) : Bool := !Op.bytesLess a b && !(a == b)
section
variable (T : List Tk)
def tkS (S : PS) : Tk := T.getD S.i ⟨0, [], 0⟩
def failS (e : Nat) (S : PS) : PS := if S.err = 0 then { S with err := e, at' := (tkS T S).pos } else S
def isS (k : Nat) (x : List UInt8) (S : PS) : Bool := S.err == 0 && ((tkS T S).kind == k && (tkS T S).text == x)
def nextS (S : PS) : PS := if S.err = 0 ∧ S.i + 1 < T.length then { S with i := S.i + 1 } else S
def mayS (k : Nat) (x : List UInt8) (S : PS) : PS := if isS T k x S then nextS T S else S
def mustS (k : Nat) (x : List UInt8) (S : PS) : PS := if isS T k x S then nextS T S else failS T 1 S
def openS (x : List UInt8) (S : PS) : PS :=
  if isS T 5 x S || isS T 2 x S then (if S.deep = 30 then failS T 2 S else nextS T { S with deep := wrap64 (S.deep + 1) }) else failS T 1 S
def closeS (x : List UInt8) (S : PS) : PS := if x = [] then { S with deep := wrap64 (S.deep - 1) } else mustS T 5 x { S with deep := wrap64 (S.deep - 1) }
def namedS (S : PS) : Bool := S.err == 0 && (tkS T S).kind == 1
def nameS (S : PS) : List UInt8 × PS :=
  if namedS T S then (if 20 < (tkS T S).text.length then ([], failS T 2 S) else ((tkS T S).text, nextS T S)) else ([], failS T 1 S)
def beginsS (S : PS) : Bool :=
  let t := tkS T S
  if t.kind = 1 ∨ t.kind = 3 ∨ t.kind = 4 then true
  else if t.kind = 5 then t.text == [40] || t.text == [45]
  else if t.kind = 2 then t.text == [78, 79, 84] || t.text == [78, 85, 76, 76] || t.text == [84, 82, 85, 69] || t.text == [70, 65, 76, 83, 69] || t.text == [67, 65, 83, 69] || t.text == [67, 79, 85, 78, 84] || t.text == [83, 85, 77] || t.text == [77, 73, 78] || t.text == [77, 65, 88]
  else false
def elementS (n : Nat) (S : PS) : PS := if S.err = 0 ∧ n = 10 ∧ beginsS T S = true then failS T 2 S else S
def numberS (most : List UInt8) (S : PS) : Int × PS :=
  let s := (tkS T S).text
  if most.length < s.length ∨ (s.length = most.length ∧ gtL s most = true) then (0, failS T 2 S) else (numF s, S)
/-- Operators of one word, to the left. -/
def loopW (sub : PS → Ex × PS) (kw : List UInt8) (op : Int) : Nat → Ex → PS → Ex × PS
  | 0, a, S => (a, S)
  | n + 1, a, S => if isS T 2 kw S then loopW sub kw op n (binE op a (sub (nextS T S)).1) (sub (nextS T S)).2 else (a, S)
/-- Operators of three signs. -/
def loopG (sub : PS → Ex × PS) (g1 g2 g3 : List UInt8) (o1 o2 o3 : Int) : Nat → Ex → PS → Ex × PS
  | 0, a, S => (a, S)
  | n + 1, a, S =>
    if isS T 5 g1 S then loopG sub g1 g2 g3 o1 o2 o3 n (binE o1 a (sub (nextS T S)).1) (sub (nextS T S)).2
    else if isS T 5 g2 S then loopG sub g1 g2 g3 o1 o2 o3 n (binE o2 a (sub (nextS T S)).1) (sub (nextS T S)).2
    else if isS T 5 g3 S then loopG sub g1 g2 g3 o1 o2 o3 n (binE o3 a (sub (nextS T S)).1) (sub (nextS T S)).2
    else (a, S)
def exprsS (sub : PS → Ex × PS) : Nat → Fo → PS → Fo × PS
  | 0, l, S => (l, S)
  | n + 1, l, S =>
    if S.err = 0 then
      let r := sub (elementS T (cnt l) S)
      let l' := Fo.app l (Fo.cons r.1.1 r.1.2 .nil)
      if isS T 5 [44] r.2 then exprsS sub n l' (nextS T r.2) else (l', r.2)
    else (l, S)
def signsL : List (List UInt8) := [[61], [60, 62], [60], [60, 61], [62], [62, 61]]
def signI (S : PS) : Nat → List (List UInt8) → Option Nat
  | _, [] => none
  | i, g :: gs => if isS T 5 g S then some i else signI S (i + 1) gs
def testS (sub3 sub7 : PS → Ex × PS) (n : Nat) (S : PS) : Ex × PS :=
  let a := (sub3 S).1
  let S1 := (sub3 S).2
  match signI T S1 0 signsL with
  | some i => (binE (5 + i) a (sub3 (nextS T S1)).1, (sub3 (nextS T S1)).2)
  | none =>
    if isS T 2 [73, 83] S1 then
      let S2 := nextS T S1
      (unE (if isS T 2 [78, 79, 84] S2 then 4 else 3) a, mustS T 2 [78, 85, 76, 76] (mayS T 2 [78, 79, 84] S2))
    else
      let nt := isS T 2 [78, 79, 84] S1
      let S2 := mayS T 2 [78, 79, 84] S1
      let r : Ex × PS :=
        if isS T 2 [73, 78] S2 then
          let l := exprsS T sub7 n .nil (openS T [40] (nextS T S2))
          ((⟨5, 0, 0, 0, [], [], [], 0, 0⟩, Fo.cons a.1 a.2 l.1), closeS T [41] l.2)
        else if isS T 2 [66, 69, 84, 87, 69, 69, 78] S2 then
          let lo := sub3 (nextS T S2)
          let hi := sub3 (mustS T 2 [65, 78, 68] lo.2)
          (binE 17 (binE 10 a lo.1) (binE 8 a hi.1), hi.2)
        else (a, if nt then failS T 1 S2 else S2)
      (if nt then unE 2 r.1 else r.1, r.2)
def casesS (sub7 : PS → Ex × PS) : Nat → Fo → PS → Fo × PS
  | 0, l, S => (l, S)
  | n + 1, l, S =>
    if S.err = 0 ∧ (cnt l = 0 ∨ isS T 2 [87, 72, 69, 78] S = true) then
      let S1 := mustS T 2 [87, 72, 69, 78] (if cnt l = 20 then failS T 2 S else S)
      let c := sub7 S1
      let v := sub7 (mustS T 2 [84, 72, 69, 78] c.2)
      casesS sub7 n (Fo.app l (Fo.cons c.1.1 c.1.2 (Fo.cons v.1.1 v.1.2 .nil))) v.2
    else (l, S)
def caseS (sub7 : PS → Ex × PS) (n : Nat) (S : PS) : Ex × PS :=
  let r := casesS T sub7 n .nil (openS T [67, 65, 83, 69] S)
  let q : Fo × PS := if isS T 2 [69, 76, 83, 69] r.2 then
    let e := sub7 (nextS T r.2)
    (Fo.app r.1 (Fo.cons e.1.1 e.1.2 .nil), e.2) else r
  ((⟨6, 0, 0, 0, [], [], [], 0, 0⟩, q.1), closeS T [] (mustS T 2 [69, 78, 68] q.2))
def aggsL : List (List UInt8) := [[67, 79, 85, 78, 84], [83, 85, 77], [77, 73, 78], [77, 65, 88]]
def aggI (S : PS) : Nat → List (List UInt8) → Option Nat
  | _, [] => none
  | i, g :: gs => if isS T 2 g S then some i else aggI S (i + 1) gs
def most8 : List UInt8 := [57, 50, 50, 51, 51, 55, 50, 48, 51, 54, 56, 53, 52, 55, 55, 53, 56, 48, 56]
def most7 : List UInt8 := [57, 50, 50, 51, 51, 55, 50, 48, 51, 54, 56, 53, 52, 55, 55, 53, 56, 48, 55]
def factorS (sub1 sub7 : PS → Ex × PS) (n : Nat) (S : PS) : Ex × PS :=
  if isS T 5 [45] S then
    if (T.getD (S.i + 1) ⟨0, [], 0⟩).kind = 3 then
      let r := numberS T most8 (nextS T S)
      (valE 2 (wrap64 (IntKind.u64.wrap (-r.1))) [], nextS T r.2)
    else
      let r := sub1 (openS T [45] S)
      (unE 1 r.1, closeS T [] r.2)
  else if S.err ≠ 0 then (exZ, S)
  else if (tkS T S).kind = 3 then
    let r := numberS T most7 S
    (valE 2 (wrap64 r.1) [], nextS T r.2)
  else if (tkS T S).kind = 4 then
    (valE 3 0 (tkS T S).text, nextS T (if 40 < (tkS T S).text.length then failS T 2 S else S))
  else if (tkS T S).kind = 1 then
    let r := nameS T S
    if isS T 5 [46] r.2 then
      let q := nameS T (nextS T r.2)
      (colE r.1 q.1, q.2)
    else (colE [] r.1, r.2)
  else if isS T 2 [78, 85, 76, 76] S then (valE 0 0 [], nextS T S)
  else if isS T 2 [84, 82, 85, 69] S then (valE 1 1 [], nextS T S)
  else if isS T 2 [70, 65, 76, 83, 69] S then (valE 1 0 [], nextS T S)
  else if isS T 5 [40] S then
    let r := sub7 (openS T [40] S)
    (r.1, closeS T [41] r.2)
  else if isS T 2 [67, 65, 83, 69] S then caseS T sub7 n S
  else match aggI T S 0 aggsL with
    | some i =>
      let S1 := openS T [40] (nextS T S)
      if i = 0 ∧ isS T 5 [42] S1 = true then ((⟨7, 19, 0, 0, [], [], [], 0, 0⟩, .nil), closeS T [41] (nextS T S1))
      else
        let r := sub7 S1
        ((⟨7, 19 + i, 0, 0, [], [], [], 0, 0⟩, Fo.cons r.1.1 r.1.2 .nil), closeS T [41] r.2)
    | none => (exZ, failS T 1 S)
/-- The levels: 7 expr, 6 and, 5 not, 4 test, 3 sum, 2 product, 1 factor. -/
def lev : Nat → Nat → PS → Ex × PS
  | 0, _, S => (exZ, S)
  | n + 1, k, S =>
    if k = 7 then loopW T (lev n 6) [79, 82] 18 n (lev n 6 S).1 (lev n 6 S).2
    else if k = 6 then loopW T (lev n 5) [65, 78, 68] 17 n (lev n 5 S).1 (lev n 5 S).2
    else if k = 5 then (if isS T 2 [78, 79, 84] S then (unE 2 (lev n 5 (openS T [78, 79, 84] S)).1, closeS T [] (lev n 5 (openS T [78, 79, 84] S)).2) else lev n 4 S)
    else if k = 4 then testS T (lev n 3) (lev n 7) n S
    else if k = 3 then loopG T (lev n 2) [43] [45] [124, 124] 11 12 16 n (lev n 2 S).1 (lev n 2 S).2
    else if k = 2 then loopG T (lev n 1) [42] [47] [37] 13 14 15 n (lev n 1 S).1 (lev n 1 S).2
    else factorS T (lev n 1) (lev n 7) n S
/-- What is left: it falls with each token and with an error. -/
def muS (S : PS) : Nat := if S.err = 0 then 1 + (T.length - S.i) else 0
end
end Go.Proofs.YtehgoioinogmkaaGreatDoor
