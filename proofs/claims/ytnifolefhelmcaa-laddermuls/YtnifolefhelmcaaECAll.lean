/- Pure mathematics: Edwards curves; Montgomery's ladder on them; curve25519 and its twist: products commute, the base point has a prime order, what is weak. -/
import Derived.Test.YtnifolefhelmcaaFPrime
set_option linter.unusedVariables false
/- Pure mathematics: the group of an Edwards curve x^2 + y^2 = 1 + D x^2 y^2, D no square, over any field; the steps of Montgomery's ladder on it. -/
namespace Go.Proofs.Ytnifolefhelmcaa.EC
section
variable {M : Nat} [NeZero M]
/-- the inverse, by Fermat -/
def iv (a : Fin M) : Fin M := ⟨a.val ^ (M - 2) % M, Nat.mod_lt _ (Nat.pos_of_ne_zero (NeZero.ne M))⟩
/-- M is a prime: what is not 0 has an inverse -/
structure Fl (M : Nat) [NeZero M] : Prop where
  inv : ∀ a : Fin M, a ≠ 0 → a * iv a = 1
  one : (0 : Fin M) ≠ 1
/-- on the curve -/
def On (D : Fin M) (P : Fin M × Fin M) : Prop := P.1*P.1 + P.2*P.2 = 1 + D*P.1*P.1*P.2*P.2
/-- what both coordinates of a sum are over -/
def dl (D : Fin M) (P Q : Fin M × Fin M) : Fin M := D*P.1*Q.1*P.2*Q.2
def add (D : Fin M) (P Q : Fin M × Fin M) : Fin M × Fin M := ((P.1*Q.2+P.2*Q.1) * iv (1 + dl D P Q), (P.2*Q.2 - P.1*Q.1) * iv (1 - dl D P Q))
def O : Fin M × Fin M := (0, 1)
theorem mul_zero_or (F : Fl M) {a b : Fin M} (h : a*b = 0) : a = 0 ∨ b = 0 := by
  by_cases ha : a = 0
  · exact .inl ha
  · right; have := F.inv a ha; grind
theorem cancel (F : Fl M) {a b c : Fin M} (hc : c ≠ 0) (h : a*c = b*c) : a = b := by
  have := F.inv c hc; grind
theorem div_of (F : Fl M) {a c : Fin M} (hc : c ≠ 0) : a * iv c * c = a := by
  have := F.inv c hc
  grind
/-- D is no square, and 2 is not 0 -/
structure Ns (D : Fin M) : Prop where
  fl : Fl M
  ns : ∀ s : Fin M, s*s ≠ D
  two : (2 : Fin M) ≠ 0
theorem no_one {D : Fin M} (h : Ns D) (x1 y1 x2 y2 e : Fin M) (h1 : On D (x1, y1)) (h2 : On D (x2, y2)) (he : e*e = 1) (hd : D*x1*x2*y1*y2 = e) : False := by
  have h1 : x1*x1+y1*y1 = 1 + D*x1*x1*y1*y1 := h1
  have h2 : x2*x2+y2*y2 = 1 + D*x2*x2*y2*y2 := h2
  have a1 : (x1 + e*y1)*(x1+e*y1) = D*(x1*y1*(x2+y2))*(x1*y1*(x2+y2)) := by grind
  have a2 : (x1 - e*y1)*(x1-e*y1) = D*(x1*y1*(x2-y2))*(x1*y1*(x2-y2)) := by grind
  have key : ∀ s t : Fin M, s*s = D*t*t → t = 0 := by
    intro s t h3
    apply Classical.byContradiction
    intro ht
    have ht' := h.fl.inv t ht
    exact h.ns (s * iv t) (by grind)
  have b1 := key _ _ a1
  have b2 := key _ _ a2
  have b3 : 2*(x1*y1*x2) = 0 := by grind
  have b4 : x1*y1*x2 = 0 := (mul_zero_or h.fl b3).resolve_left h.two
  have : e = 0 := by grind
  have : (1 : Fin M) = 0 := by grind
  exact h.fl.one this.symm
theorem dl_ne {D : Fin M} (h : Ns D) {P Q : Fin M × Fin M} (hP : On D P) (hQ : On D Q) : 1 + dl D P Q ≠ 0 ∧ 1 - dl D P Q ≠ 0 :=
  ⟨fun e => no_one h P.1 P.2 Q.1 Q.2 (-1) hP hQ (by grind) (by unfold dl at e; grind), fun e => no_one h P.1 P.2 Q.1 Q.2 1 hP hQ (by grind) (by unfold dl at e; grind)⟩
/-- the sum, by its equations -/
theorem add_eq {D : Fin M} (h : Ns D) {P Q : Fin M × Fin M} (hP : On D P) (hQ : On D Q) : (add D P Q).1 * (1 + dl D P Q) = P.1*Q.2+P.2*Q.1 ∧ (add D P Q).2 * (1 - dl D P Q) = P.2*Q.2 - P.1*Q.1 := by
  obtain ⟨n1, n2⟩ := dl_ne h hP hQ
  exact ⟨div_of h.fl n1, div_of h.fl n2⟩
theorem add_on {D : Fin M} (h : Ns D) {P Q : Fin M × Fin M} (hP : On D P) (hQ : On D Q) : On D (add D P Q) := by
  obtain ⟨n1, n2⟩ := dl_ne h hP hQ
  obtain ⟨e1, e2⟩ := add_eq h hP hQ
  obtain ⟨x1, y1⟩ := P
  obtain ⟨x2, y2⟩ := Q
  generalize add D (x1, y1) (x2, y2) = R at *
  obtain ⟨x, y⟩ := R
  unfold On dl at *
  simp only at *
  have hc := (show (x1*y2+y1*x2)*(x1*y2+y1*x2)*((1-D*x1*x2*y1*y2)*(1-D*x1*x2*y1*y2)) + (y1*y2-x1*x2)*(y1*y2-x1*x2)*((1+D*x1*x2*y1*y2)*(1+D*x1*x2*y1*y2)) = (1-D*x1*x2*y1*y2)*(1-D*x1*x2*y1*y2)*((1+D*x1*x2*y1*y2)*(1+D*x1*x2*y1*y2)) + D*((x1*y2+y1*x2)*(x1*y2+y1*x2))*((y1*y2-x1*x2)*(y1*y2-x1*x2)) by clear e1 e2 n1 n2; grind)
  rw [← e1, ← e2] at hc
  clear hP hQ e1 e2
  generalize D*x1*x2*y1*y2 = d at *
  refine cancel h.fl n1 (cancel h.fl n1 (cancel h.fl n2 (cancel h.fl n2 ?_)))
  grind
theorem add_comm (D : Fin M) (P Q : Fin M × Fin M) : add D P Q = add D Q P := by
  have : dl D P Q = dl D Q P := by unfold dl; grind
  unfold add; rw [this]
  refine Prod.ext ?_ ?_
  · show _ * _ = _ * _; congr 1; grind
  · show _ * _ = _ * _; congr 1; grind
theorem O_on (D : Fin M) : On D O := by unfold On O; grind
theorem add_O {D : Fin M} (h : Ns D) {P : Fin M × Fin M} (hP : On D P) : add D P O = P := by
  obtain ⟨e1, e2⟩ := add_eq h hP (O_on D)
  have : dl D P O = 0 := by unfold dl O; grind
  rw [this] at e1 e2
  unfold O at *
  refine Prod.ext ?_ ?_ <;> grind
theorem id_as {v w g5 g7 n m c k : Fin M} (a5 : v*g5 = n) (a7 : w*g7 = m) (ax : c*n*(k*g7) = k*m*(c*g5)) : v*(c*g5)*(k*g7) = w*(c*g5)*(k*g7) := by
  rw [show v*(c*g5)*(k*g7) = c*(v*g5)*(k*g7) by clear a5 a7 ax; grind, show w*(c*g5)*(k*g7) = k*(w*g7)*(c*g5) by clear a5 a7 ax; grind, a5, a7, ax]
/-- unlike as they are made, alike as they are -/
theorem add_assoc {D : Fin M} (h : Ns D) {P Q R : Fin M × Fin M} (hP : On D P) (hQ : On D Q) (hR : On D R) : add D (add D P Q) R = add D P (add D Q R) := by
  have hPQ := add_on h hP hQ
  have hQR := add_on h hQ hR
  obtain ⟨n1, n2⟩ := dl_ne h hP hQ
  obtain ⟨n3, n4⟩ := dl_ne h hQ hR
  obtain ⟨n5, n6⟩ := dl_ne h hPQ hR
  obtain ⟨n7, n8⟩ := dl_ne h hP hQR
  obtain ⟨a1, a2⟩ := add_eq h hP hQ
  obtain ⟨a3, a4⟩ := add_eq h hQ hR
  obtain ⟨a5, a6⟩ := add_eq h hPQ hR
  obtain ⟨a7, a8⟩ := add_eq h hP hQR
  clear hPQ hQR
  generalize add D (add D P Q) R = V at *
  generalize add D P (add D Q R) = W at *
  generalize add D P Q = S at *
  generalize add D Q R = T at *
  obtain ⟨x1, y1⟩ := P
  obtain ⟨x2, y2⟩ := Q
  obtain ⟨x3, y3⟩ := R
  obtain ⟨s1, s2⟩ := S
  obtain ⟨t1, t2⟩ := T
  obtain ⟨v1, v2⟩ := V
  obtain ⟨w1, w2⟩ := W
  unfold On dl at *
  simp only at *
  have ax : ((x1*y2+y1*x2)*(1-D*x1*x2*y1*y2)*y3 + (y1*y2-x1*x2)*(1+D*x1*x2*y1*y2)*x3) * ((1-D*x2*x3*y2*y3)*(1+D*x2*x3*y2*y3) + D*x1*y1*(x2*y3+y2*x3)*(y2*y3-x2*x3))
    = ((x2*y3+y2*x3)*(1-D*x2*x3*y2*y3)*y1 + (y2*y3-x2*x3)*(1+D*x2*x3*y2*y3)*x1) * ((1-D*x1*x2*y1*y2)*(1+D*x1*x2*y1*y2) + D*x3*y3*(x1*y2+y1*x2)*(y1*y2-x1*x2)) := by
    clear n1 n2 n3 n4 n5 n6 n7 n8 a1 a2 a3 a4 a5 a6 a7 a8
    grind
  have ay : ((y1*y2-x1*x2)*(1+D*x1*x2*y1*y2)*y3 - (x1*y2+y1*x2)*(1-D*x1*x2*y1*y2)*x3) * ((1-D*x2*x3*y2*y3)*(1+D*x2*x3*y2*y3) - D*x1*y1*(x2*y3+y2*x3)*(y2*y3-x2*x3))
    = ((y2*y3-x2*x3)*(1+D*x2*x3*y2*y3)*y1 - (x2*y3+y2*x3)*(1-D*x2*x3*y2*y3)*x1) * ((1-D*x1*x2*y1*y2)*(1+D*x1*x2*y1*y2) - D*x3*y3*(x1*y2+y1*x2)*(y1*y2-x1*x2)) := by
    clear n1 n2 n3 n4 n5 n6 n7 n8 a1 a2 a3 a4 a5 a6 a7 a8
    grind
  rw [← a1, ← a2, ← a3, ← a4] at ax ay
  clear hP hQ hR a1 a2 a3 a4
  generalize D*x1*x2*y1*y2 = d at *
  generalize D*x2*x3*y2*y3 = e at *
  have m5 : (1+d)*(1-d)*(1 + D*s1*x3*s2*y3) ≠ 0 := fun h0 => by
    rcases mul_zero_or h.fl h0 with h0 | h0
    · rcases mul_zero_or h.fl h0 with h0 | h0
      · exact n1 h0
      · exact n2 h0
    · exact n5 h0
  have m6 : (1+d)*(1-d)*(1 - D*s1*x3*s2*y3) ≠ 0 := fun h0 => by
    rcases mul_zero_or h.fl h0 with h0 | h0
    · rcases mul_zero_or h.fl h0 with h0 | h0
      · exact n1 h0
      · exact n2 h0
    · exact n6 h0
  have m7 : (1+e)*(1-e)*(1 + D*x1*t1*y1*t2) ≠ 0 := fun h0 => by
    rcases mul_zero_or h.fl h0 with h0 | h0
    · rcases mul_zero_or h.fl h0 with h0 | h0
      · exact n3 h0
      · exact n4 h0
    · exact n7 h0
  have m8 : (1+e)*(1-e)*(1 - D*x1*t1*y1*t2) ≠ 0 := fun h0 => by
    rcases mul_zero_or h.fl h0 with h0 | h0
    · rcases mul_zero_or h.fl h0 with h0 | h0
      · exact n3 h0
      · exact n4 h0
    · exact n8 h0
  refine Prod.ext (cancel h.fl m5 (cancel h.fl m7 ?_)) (cancel h.fl m6 (cancel h.fl m8 ?_))
  · refine id_as a5 a7 ?_
    clear n1 n2 n3 n4 n5 n6 n7 n8 m5 m6 m7 m8 a5 a6 a7 a8 ay
    refine Eq.trans ?_ (ax.trans ?_)
    · clear ax; grind
    · clear ax; grind
  · refine id_as a6 a8 ?_
    clear n1 n2 n3 n4 n5 n6 n7 n8 m5 m6 m7 m8 a5 a6 a7 a8 ax
    refine Eq.trans ?_ (ay.trans ?_)
    · clear ay; grind
    · clear ay; grind
end
end Go.Proofs.Ytnifolefhelmcaa.EC
/- Pure mathematics: multiples of a point of an Edwards curve; doubling, and adding with a known difference, read by one coordinate. -/
namespace Go.Proofs.Ytnifolefhelmcaa.EC
section
variable {M : Nat} [NeZero M]
/-- n times P -/
def mulN (D : Fin M) (P : Fin M × Fin M) : Nat → Fin M × Fin M
  | 0 => O
  | n + 1 => add D (mulN D P n) P
theorem mulN_on {D : Fin M} (h : Ns D) {P : Fin M × Fin M} (hP : On D P) : ∀ n, On D (mulN D P n)
  | 0 => O_on D
  | n + 1 => add_on h (mulN_on h hP n) hP
theorem mulN_add {D : Fin M} (h : Ns D) {P : Fin M × Fin M} (hP : On D P) (m : Nat) : ∀ n, mulN D P (m + n) = add D (mulN D P m) (mulN D P n)
  | 0 => (add_O h (mulN_on h hP m)).symm
  | n + 1 => by
      show add D (mulN D P (m + n)) P = add D (mulN D P m) (add D (mulN D P n) P)
      rw [mulN_add h hP m n, add_assoc h (mulN_on h hP m) (mulN_on h hP n) hP]
theorem mulN_mul {D : Fin M} (h : Ns D) {P : Fin M × Fin M} (hP : On D P) (n : Nat) : ∀ m, mulN D P (m * n) = mulN D (mulN D P n) m
  | 0 => by rw [Nat.zero_mul]; rfl
  | m + 1 => by
      rw [Nat.succ_mul, mulN_add h hP, mulN_mul h hP n m]; rfl
theorem mulN_one {D : Fin M} (h : Ns D) {P : Fin M × Fin M} (hP : On D P) : mulN D P 1 = P := by
  show add D O P = P
  rw [add_comm, add_O h hP]
theorem mulN_O {D : Fin M} (h : Ns D) : ∀ n, mulN D (O : Fin M × Fin M) n = O
  | 0 => rfl
  | n + 1 => by
      show add D (mulN D O n) O = O
      rw [mulN_O h n, add_O h (O_on D)]
/-- the other way round -/
def neg (P : Fin M × Fin M) : Fin M × Fin M := (-P.1, P.2)
theorem neg_on {D : Fin M} {P : Fin M × Fin M} (hP : On D P) : On D (neg P) := by unfold On neg at *; simp only; grind
theorem add_neg {D : Fin M} (h : Ns D) {P : Fin M × Fin M} (hP : On D P) : add D P (neg P) = O := by
  have F := h.fl
  obtain ⟨e1, e2⟩ := add_eq h hP (neg_on hP)
  obtain ⟨n1, n2⟩ := dl_ne h hP (neg_on hP)
  unfold On dl neg O at *
  simp only at *
  refine Prod.ext (cancel F n1 ?_) (cancel F n2 ?_)
  · show _ = 0 * _; rw [e1]; grind
  · show _ = 1 * _; rw [e2]; grind
theorem sub_of {D : Fin M} (h : Ns D) {P Q : Fin M × Fin M} (hP : On D P) (hQ : On D Q) : add D (add D Q P) (neg Q) = P := by
  rw [add_comm D Q P, add_assoc h hP hQ (neg_on hQ), add_neg h hQ, add_O h hP]

/-- x / z is the place of the point Q, of the curve (e = 1) or of the other one (e = - 1) -/
structure Rep (e x z : Fin M) (Q : Fin M × Fin M) : Prop where
  at_ : x * (1 - Q.2) = e * z * (1 + Q.2)
  ne : ¬ (x = 0 ∧ z = 0)
/-- the constants of a curve -/
structure Cv (D A e : Fin M) : Prop where
  ns : Ns D
  sg : e*e = 1
  rel : D * (e*A + 2) = e*A - 2
  nz : e*A + 2 ≠ 0
theorem Rep.lam (F : Fl M) {e x z : Fin M} {Q : Fin M × Fin M} (h2 : (2 : Fin M) ≠ 0) (he : e*e = 1) (h : Rep e x z Q) : ∃ l, l ≠ 0 ∧ x = l * e * (1 + Q.2) ∧ z = l * (1 - Q.2) := by
  obtain ⟨h1, h3⟩ := h
  have i2 := F.inv 2 h2
  refine ⟨(e*x + z) * iv 2, fun h0 => h3 ?_, by grind, by grind⟩
  have z0 : e*x + z = 0 := by clear h1 h3 he; grind
  have x2 : 2*x = 0 := by clear h0 h3 i2; grind
  have x0 : x = 0 := (mul_zero_or F x2).resolve_left h2
  exact ⟨x0, by clear h0 h1 h3 he i2 x2; grind⟩
theorem id_x (l e y : Fin M) (hs : e*e = 1) : (l*e*(1+y))*(l*e*(1+y)) - (l*(1-y))*(l*(1-y)) = 4*l*l*y := by grind
theorem id_z (l e y A D : Fin M) (hs : e*e = 1) (hr : D * (e*A + 2) = e*A - 2) : 4*(l*e*(1+y))*(l*(1-y))*((l*e*(1+y))*(l*e*(1+y)) + A*(l*e*(1+y))*(l*(1-y)) + (l*(1-y))*(l*(1-y))) = 4*l*l*l*l*e*((1-y*y)*((e*A+2)*(1-D*y*y))) := by grind
theorem id_k1 (e A D a y : Fin M) (hr : D * (e*A + 2) = e*A - 2) (hQ : a*a + y*y = 1 + D*a*a*y*y) : (e*A+2)*(1-D*y*y)*(1-a*a) = 4*y*y := by grind
theorem id_k2 (D a y s : Fin M) (hQ : a*a + y*y = 1 + D*a*a*y*y) (e2 : s*(1 - D*a*a*y*y) = y*y - a*a) : (1 - s)*(1 - D*a*a*y*y) = 2*(1-y*y) := by grind
theorem id_k3 (D a y s : Fin M) (hQ : a*a + y*y = 1 + D*a*a*y*y) (e2 : s*(1 - D*a*a*y*y) = y*y - a*a) : (1 + s)*(1 - D*a*a*y*y) = 2*(1-a*a) := by grind
theorem id_d (l e y a t g s : Fin M) (hs : e*e = 1) (k1 : t*(1-a*a) = 4*y*y) (k2 : (1-s)*g = 2*(1-y*y)) (k3 : (1+s)*g = 2*(1-a*a)) : 4*l*l*y*(4*l*l*y)*(1-s)*g = e*(4*l*l*l*l*e*((1-y*y)*t))*(1+s)*g := by grind
theorem four_ne (F : Fl M) (h : (2:Fin M) ≠ 0) : (4:Fin M) ≠ 0 := fun q => h ((mul_zero_or F (show (2:Fin M)*2 = 0 by rw [← q]; grind)).elim id id)
theorem e_ne (F : Fl M) {e : Fin M} (h : e*e = 1) : e ≠ 0 := fun q => F.one (show (0:Fin M) = 1 by rw [← h, q]; grind)
theorem mul_ne (F : Fl M) {a b : Fin M} (ha : a ≠ 0) (hb : b ≠ 0) : a*b ≠ 0 := fun q => (mul_zero_or F q).elim ha hb
theorem id_p1 (p u e : Fin M) (he : e*e = 1) (hu : u*(1-p) = e*(1+p)) (q : p = 1) : (2:Fin M) = 0 := by subst q; grind
theorem id_x2 (l m e y r : Fin M) (he : e*e = 1) : (l*e*(1+y))*(m*e*(1+r)) - (l*(1-y))*(m*(1-r)) = 2*l*m*(y+r) := by grind
theorem id_z2 (l m e y r : Fin M) : (m*e*(1+r))*(l*(1-y)) - (l*e*(1+y))*(m*(1-r)) = 2*l*m*e*(r-y) := by grind
theorem id_s1 (d yr ab s : Fin M) (h : s*(1-d) = yr - ab) : (1+s)*(1-d) = 1 - d + yr - ab ∧ (1-s)*(1-d) = 1 - d - yr + ab := by constructor <;> grind
theorem id_s2 (d yr ab p : Fin M) (h : p*(1+d) = yr + ab) : (1+p)*(1+d) = 1 + d + yr + ab ∧ (1-p)*(1+d) = 1 + d - yr - ab := by constructor <;> grind
theorem id_k5 (D a b y r : Fin M) (hQ : a*a + y*y = 1 + D*a*a*y*y) (hR : b*b + r*r = 1 + D*b*b*r*r) : (1 - D*a*b*y*r + y*r - a*b)*(1 + D*a*b*y*r + y*r + a*b)*((r-y)*(r-y)) = (1 - D*a*b*y*r - y*r + a*b)*(1 + D*a*b*y*r - y*r - a*b)*((y+r)*(y+r)) := by grind
theorem id_f (l m e u p s y r : Fin M) (he : e*e = 1) (hu : u*(1-p) = e*(1+p)) (k : (1+s)*(1+p)*((r-y)*(r-y)) = (1-s)*(1-p)*((y+r)*(y+r))) : 4*(2*l*m*(y+r)*(2*l*m*(y+r)))*(1-s)*(1-p) = e*(u*(4*(2*l*m*e*(r-y)*(2*l*m*e*(r-y)))))*(1+s)*(1-p) := by grind
theorem rep_dbl {D A e x z : Fin M} {Q : Fin M × Fin M} (c : Cv D A e) (hQ : On D Q) (h : Rep e x z Q) : Rep e ((x*x - z*z)*(x*x - z*z)) (4*x*z*(x*x + A*x*z + z*z)) (add D Q Q) := by
  have F := c.ns.fl
  obtain ⟨l, l0, rfl, rfl⟩ := Rep.lam F c.ns.two c.sg h
  obtain ⟨n1, n2⟩ := dl_ne c.ns hQ hQ
  obtain ⟨e1, e2⟩ := add_eq c.ns hQ hQ
  generalize add D Q Q = R at *
  obtain ⟨a, y⟩ := Q
  obtain ⟨b, s⟩ := R
  unfold On dl at *
  simp only at *
  rw [id_x l e y c.sg, id_z l e y A D c.sg c.rel]
  have k1 := id_k1 e A D a y c.rel hQ
  refine ⟨?_, ?_⟩
  · exact cancel F n2 (id_d l e y a _ _ s c.sg k1 (id_k2 D a y s hQ e2) (id_k3 D a y s hQ e2))
  · rintro ⟨z1, z2⟩
    have f4 := four_ne F c.ns.two
    have y0 : y = 0 := by
      have q := (mul_zero_or F z1).elim id id
      exact (mul_zero_or F q).resolve_left (mul_ne F (mul_ne F f4 l0) l0)
    subst y0
    refine mul_ne F (mul_ne F (mul_ne F (mul_ne F (mul_ne F (mul_ne F f4 l0) l0) l0) l0) (e_ne F c.sg)) ?_ z2
    intro q
    exact c.nz (by rw [← q]; grind)
theorem rep_add {D A e u x z x' z' : Fin M} {P Q : Fin M × Fin M} (c : Cv D A e) (hP : On D P) (hQ : On D Q) (hu : u * (1 - P.2) = e * (1 + P.2)) (u0 : u ≠ 0) (h : Rep e x z Q) (h' : Rep e x' z' (add D Q P)) : Rep e (4*((x*x' - z*z')*(x*x' - z*z'))) (u*(4*((x'*z - x*z')*(x'*z - x*z')))) (add D Q (add D Q P)) := by
  have F := c.ns.fl
  obtain ⟨l, l0, rfl, rfl⟩ := Rep.lam F c.ns.two c.sg h
  obtain ⟨m, m0, rfl, rfl⟩ := Rep.lam F c.ns.two c.sg h'
  have hR := add_on c.ns hQ hP
  have hs := sub_of c.ns hP hQ
  obtain ⟨n1, n2⟩ := dl_ne c.ns hQ hR
  obtain ⟨e1, e2⟩ := add_eq c.ns hQ hR
  obtain ⟨n3, n4⟩ := dl_ne c.ns hR (neg_on hQ)
  obtain ⟨e3, e4⟩ := add_eq c.ns hR (neg_on hQ)
  rw [hs] at e3 e4
  obtain ⟨he, two⟩ : e*e = 1 ∧ (2 : Fin M) ≠ 0 := ⟨c.sg, c.ns.two⟩
  clear hs h h'
  generalize add D Q (add D Q P) = S at *
  generalize add D Q P = R at *
  obtain ⟨a, y⟩ := Q
  obtain ⟨b, r⟩ := R
  obtain ⟨g, s⟩ := S
  obtain ⟨f, p⟩ := P
  unfold On dl neg at *
  simp only at *
  clear c
  have p1 : p ≠ 1 := fun q => two (id_p1 p u e he hu q)
  have hd : (1 : Fin M) - D*b*(-a)*r*y = 1 + D*a*b*y*r := by clear hP hQ hR e1 e2 e3 e4 n1 n2 n3 n4 hu; grind
  rw [hd] at n4 e4
  have e4 : p*(1 + D*a*b*y*r) = y*r + a*b := by rw [e4]; clear hP hQ hR e1 e2 e3 e4 n1 n2 n3 n4 hu hd; grind
  clear n3 e3 hd
  have k : (1+s)*(1+p)*((r-y)*(r-y)) = (1-s)*(1-p)*((y+r)*(y+r)) := by
    obtain ⟨k1, k2⟩ := id_s1 (D*a*b*y*r) (y*r) (a*b) s e2
    obtain ⟨k3, k4⟩ := id_s2 (D*a*b*y*r) (y*r) (a*b) p e4
    have k5 := id_k5 D a b y r hQ hR
    rw [← k1, ← k2, ← k3, ← k4] at k5
    refine cancel F n2 (cancel F n4 ?_)
    clear k1 k2 k3 k4 e1 e2 e4 n1 n2 n4 hP hQ hR p1 u0 hu
    grind
  rw [id_x2 l m e y r he, id_z2 l m e y r]
  refine ⟨?_, ?_⟩
  · have p2 : 1 - p ≠ 0 := fun q => p1 (by clear k hP hQ hR e1 e2 e4 n1 n2 n4 hu p1; grind)
    exact cancel F p2 (id_f l m e u p s y r he hu k)
  · rintro ⟨z1, z2⟩
    have lm0 : 2*l*m ≠ 0 := mul_ne F (mul_ne F two l0) m0
    have w1 : y + r = 0 := by
      have q := (mul_zero_or F ((mul_zero_or F z1).resolve_left (four_ne F two))).elim id id
      exact (mul_zero_or F q).resolve_left lm0
    have w2 : r - y = 0 := by
      have q := (mul_zero_or F ((mul_zero_or F ((mul_zero_or F z2).resolve_left u0)).resolve_left (four_ne F two))).elim id id
      exact (mul_zero_or F q).resolve_left (mul_ne F lm0 (e_ne F he))
    have y0 : y = 0 := (mul_zero_or F (show 2*y = 0 by clear z1 z2 k hP hQ hR e1 e2 e4 n1 n2 n4 hu; grind)).resolve_left two
    have r0 : r = 0 := by clear z1 z2 k hP hQ hR e1 e2 e4 n1 n2 n4 hu; grind
    subst y0 r0
    have e5 : p = a*b := by clear z1 z2 k hP hQ hR e1 e2 n1 n2 n4 hu w1 w2; grind
    have aa : a*a = 1 := by clear z1 z2 k hP hR e1 e2 e4 n1 n2 n4 hu w1 w2 e5; grind
    have bb : b*b = 1 := by clear z1 z2 k hP hQ e1 e2 e4 n1 n2 n4 hu w1 w2 e5; grind
    have pp : (p - 1)*(p + 1) = 0 := by clear z1 z2 k hP hQ hR e1 e2 e4 n1 n2 n4 hu w1 w2; grind
    rcases mul_zero_or F pp with q | q
    · exact p1 (by clear z1 z2 k hP hQ hR e1 e2 e4 n1 n2 n4 hu w1 w2 pp e5 aa bb; grind)
    · have : u * 2 = 0 := by clear z1 z2 k hP hQ hR e1 e2 e4 n1 n2 n4 w1 w2 pp e5 aa bb; grind
      exact (mul_zero_or F this).elim u0 two
end
end Go.Proofs.Ytnifolefhelmcaa.EC
/- Pure mathematics: Montgomery's ladder tells the place of n times P; products commute; where they are 0. -/
namespace Go.Proofs.Ytnifolefhelmcaa.EC
section
variable {M : Nat} [NeZero M]
/-- one step of the ladder -/
def lst (k u x2 z2 x3 z3 : Fin M) : Fin M × Fin M × Fin M × Fin M :=
  ((x2+z2)*(x2+z2)*((x2-z2)*(x2-z2)),
   ((x2+z2)*(x2+z2) - (x2-z2)*(x2-z2))*((x2+z2)*(x2+z2) + k*((x2+z2)*(x2+z2) - (x2-z2)*(x2-z2))),
   ((x3-z3)*(x2+z2) + (x3+z3)*(x2-z2))*((x3-z3)*(x2+z2) + (x3+z3)*(x2-z2)),
   u*(((x3-z3)*(x2+z2) - (x3+z3)*(x2-z2))*((x3-z3)*(x2+z2) - (x3+z3)*(x2-z2))))
/-- a step, by the bit -/
def bst (k u : Fin M) (b : Bool) (s : Fin M × Fin M × Fin M × Fin M) : Fin M × Fin M × Fin M × Fin M :=
  if b then ((lst k u s.2.2.1 s.2.2.2 s.1 s.2.1).2.2.1, (lst k u s.2.2.1 s.2.2.2 s.1 s.2.1).2.2.2, (lst k u s.2.2.1 s.2.2.2 s.1 s.2.1).1, (lst k u s.2.2.1 s.2.2.2 s.1 s.2.1).2.1)
  else lst k u s.1 s.2.1 s.2.2.1 s.2.2.2
/-- the first j of t steps for the number n -/
def lad (k u : Fin M) (n t : Nat) : Nat → Fin M × Fin M × Fin M × Fin M
  | 0 => (1, 0, u, 1)
  | j + 1 => bst k u (n.testBit (t - 1 - j)) (lad k u n t j)
/-- the product: x / z -/
def mulU (k u : Fin M) (n t : Nat) : Fin M := (lad k u n t t).1 * iv (lad k u n t t).2.1
/-- a point's place -/
def U (e : Fin M) (Q : Fin M × Fin M) : Fin M := e * (1 + Q.2) * iv (1 - Q.2)
theorem id_b1 (x z : Fin M) : (x+z)*(x+z)*((x-z)*(x-z)) = (x*x - z*z)*(x*x - z*z) := by grind
theorem id_b2 (k A x z : Fin M) (hA : A = 4*k + 2) : ((x+z)*(x+z) - (x-z)*(x-z))*((x+z)*(x+z) + k*((x+z)*(x+z) - (x-z)*(x-z))) = 4*x*z*(x*x + A*x*z + z*z) := by subst hA; grind
theorem id_b3 (x z x' z' : Fin M) : ((x'-z')*(x+z) + (x'+z')*(x-z))*((x'-z')*(x+z) + (x'+z')*(x-z)) = 4*((x*x' - z*z')*(x*x' - z*z')) := by grind
theorem id_b4 (u x z x' z' : Fin M) : u*(((x'-z')*(x+z) - (x'+z')*(x-z))*((x'-z')*(x+z) - (x'+z')*(x-z))) = u*(4*((x'*z - x*z')*(x'*z - x*z'))) := by grind
theorem id_b5 (x z x' z' : Fin M) : (x'-z')*(x+z) + (x'+z')*(x-z) = (x-z)*(x'+z') + (x+z)*(x'-z') := by grind
theorem id_b6 (x z x' z' : Fin M) : ((x'-z')*(x+z) - (x'+z')*(x-z))*((x'-z')*(x+z) - (x'+z')*(x-z)) = ((x-z)*(x'+z') - (x+z)*(x'-z'))*((x-z)*(x'+z') - (x+z)*(x'-z')) := by grind
/-- where the ladder is -/
def At (D e : Fin M) (P : Fin M × Fin M) (n : Nat) (s : Fin M × Fin M × Fin M × Fin M) : Prop :=
  Rep e s.1 s.2.1 (mulN D P n) ∧ Rep e s.2.2.1 s.2.2.2 (mulN D P (n + 1))
theorem at_step {D A e k u : Fin M} {P : Fin M × Fin M} (c : Cv D A e) (hA : A = 4*k + 2) (hP : On D P) (hu : u*(1 - P.2) = e*(1 + P.2)) (u0 : u ≠ 0) (n : Nat) (b : Bool) (s : Fin M × Fin M × Fin M × Fin M) (h : At D e P n s) : At D e P (2*n + b.toNat) (bst k u b s) := by
  obtain ⟨h1, h2⟩ := h
  have hn := mulN_on c.ns hP n
  have hn1 := mulN_on c.ns hP (n + 1)
  have hs := rep_add c hP hn hu u0 h1 h2
  have e2 : mulN D P (n + 1) = add D (mulN D P n) P := rfl
  rw [← e2, ← mulN_add c.ns hP] at hs
  cases b
  · show At D e P (2*n) (lst k u s.1 s.2.1 s.2.2.1 s.2.2.2)
    have hd := rep_dbl c hn h1
    rw [← mulN_add c.ns hP] at hd
    refine ⟨?_, ?_⟩
    · rw [show 2*n = n + n by omega]
      show Rep e ((s.1+s.2.1)*(s.1+s.2.1)*((s.1-s.2.1)*(s.1-s.2.1))) _ _
      rw [id_b1]
      show Rep e _ (((s.1+s.2.1)*(s.1+s.2.1) - (s.1-s.2.1)*(s.1-s.2.1))*((s.1+s.2.1)*(s.1+s.2.1) + k*((s.1+s.2.1)*(s.1+s.2.1) - (s.1-s.2.1)*(s.1-s.2.1)))) _
      rw [id_b2 k A _ _ hA]
      exact hd
    · rw [show 2*n + 1 = n + (n + 1) by omega]
      show Rep e (((s.2.2.1-s.2.2.2)*(s.1+s.2.1) + (s.2.2.1+s.2.2.2)*(s.1-s.2.1))*((s.2.2.1-s.2.2.2)*(s.1+s.2.1) + (s.2.2.1+s.2.2.2)*(s.1-s.2.1))) _ _
      rw [id_b3]
      show Rep e _ (u*(((s.2.2.1-s.2.2.2)*(s.1+s.2.1) - (s.2.2.1+s.2.2.2)*(s.1-s.2.1))*((s.2.2.1-s.2.2.2)*(s.1+s.2.1) - (s.2.2.1+s.2.2.2)*(s.1-s.2.1)))) _
      rw [id_b4]
      exact hs
  · have hd := rep_dbl c hn1 h2
    rw [← mulN_add c.ns hP] at hd
    refine ⟨?_, ?_⟩
    · rw [show 2*n + true.toNat = n + (n + 1) by show 2*n + 1 = _; omega]
      show Rep e (((s.1-s.2.1)*(s.2.2.1+s.2.2.2) + (s.1+s.2.1)*(s.2.2.1-s.2.2.2))*((s.1-s.2.1)*(s.2.2.1+s.2.2.2) + (s.1+s.2.1)*(s.2.2.1-s.2.2.2))) _ _
      rw [← id_b5, id_b3]
      show Rep e _ (u*(((s.1-s.2.1)*(s.2.2.1+s.2.2.2) - (s.1+s.2.1)*(s.2.2.1-s.2.2.2))*((s.1-s.2.1)*(s.2.2.1+s.2.2.2) - (s.1+s.2.1)*(s.2.2.1-s.2.2.2)))) _
      rw [← id_b6, id_b4]
      exact hs
    · rw [show 2*n + true.toNat + 1 = n + 1 + (n + 1) by show 2*n + 1 + 1 = _; omega]
      show Rep e ((s.2.2.1+s.2.2.2)*(s.2.2.1+s.2.2.2)*((s.2.2.1-s.2.2.2)*(s.2.2.1-s.2.2.2))) _ _
      rw [id_b1]
      show Rep e _ (((s.2.2.1+s.2.2.2)*(s.2.2.1+s.2.2.2) - (s.2.2.1-s.2.2.2)*(s.2.2.1-s.2.2.2))*((s.2.2.1+s.2.2.2)*(s.2.2.1+s.2.2.2) + k*((s.2.2.1+s.2.2.2)*(s.2.2.1+s.2.2.2) - (s.2.2.1-s.2.2.2)*(s.2.2.1-s.2.2.2)))) _
      rw [id_b2 k A _ _ hA]
      exact hd
theorem testBit_nat (n j : Nat) : n / 2 ^ j = 2 * (n / 2 ^ (j + 1)) + (n.testBit j).toNat := by
  rw [Nat.pow_succ, ← Nat.div_div_eq_div_mul, Nat.testBit_eq_decide_div_mod_eq]
  by_cases h : n / 2 ^ j % 2 = 1
  · rw [decide_eq_true h]; show _ = _ + 1; omega
  · rw [decide_eq_false h]; show _ = _ + 0; omega
theorem at_lad {D A e k u : Fin M} {P : Fin M × Fin M} (c : Cv D A e) (hA : A = 4*k + 2) (hP : On D P) (hu : u*(1 - P.2) = e*(1 + P.2)) (u0 : u ≠ 0) (n t : Nat) (hn : n < 2 ^ t) : ∀ j, j ≤ t → At D e P (n / 2 ^ (t - j)) (lad k u n t j)
  | 0, _ => by
      rw [Nat.sub_zero, Nat.div_eq_of_lt hn]
      have one : (1 : Fin M) ≠ 0 := fun h => c.ns.fl.one h.symm
      refine ⟨⟨?_, fun h => one h.1⟩, ⟨?_, fun h => one h.2⟩⟩
      · show (1 : Fin M) * (1 - 1) = e * 0 * (1 + 1); grind
      · show u * (1 - (mulN D P 1).2) = e * 1 * (1 + (mulN D P 1).2)
        rw [mulN_one c.ns hP, hu]; clear hu; grind
  | j + 1, hj => by
      have h := at_step c hA hP hu u0 _ (n.testBit (t - 1 - j)) _ (at_lad c hA hP hu u0 n t hn j (by omega))
      have e1 := testBit_nat n (t - (j + 1))
      rw [show t - (j + 1) + 1 = t - j by omega, show t - (j + 1) = t - 1 - j by omega] at e1
      rw [← e1] at h
      rw [show t - (j + 1) = t - 1 - j by omega]
      exact h
theorem iv_zero (hM : 2 < M) : iv (0 : Fin M) = 0 := by
  refine Fin.ext ?_
  show (0 : Fin M).val ^ (M - 2) % M = (0 : Fin M).val
  rw [Fin.val_zero, Nat.zero_pow (by omega), Nat.zero_mod]
theorem rep_U {D A e x z : Fin M} {Q : Fin M × Fin M} (hM : 2 < M) (c : Cv D A e) (h : Rep e x z Q) : x * iv z = U e Q := by
  have F := c.ns.fl
  obtain ⟨l, l0, rfl, rfl⟩ := Rep.lam F c.ns.two c.sg h
  unfold U
  clear h
  generalize Q.2 = y
  by_cases h : 1 - y = 0
  · rw [h, show l * (0 : Fin M) = 0 by clear h; grind, iv_zero hM]; clear h; grind
  · have i1 := F.inv _ h
    have i2 := F.inv _ (mul_ne F l0 h)
    refine cancel F (mul_ne F l0 h) ?_
    generalize iv (l * (1 - y)) = a at *
    generalize iv (1 - y) = b at *
    clear h l0
    generalize 1 - y = g at *
    generalize 1 + y = f at *
    grind
/-- the ladder tells the place of n times P -/
theorem mulU_at {D A e k u : Fin M} {P : Fin M × Fin M} (hM : 2 < M) (c : Cv D A e) (hA : A = 4*k + 2) (hP : On D P) (hu : u*(1 - P.2) = e*(1 + P.2)) (u0 : u ≠ 0) (n t : Nat) (hn : n < 2 ^ t) : mulU k u n t = U e (mulN D P n) := by
  have h := at_lad c hA hP hu u0 n t hn t (Nat.le_refl t)
  rw [Nat.sub_self, Nat.pow_zero, Nat.div_one] at h
  exact rep_U hM c h.1
/-- from 0 on it is 0 -/
theorem lad_zero (F : Fl M) (k : Fin M) (n t : Nat) : ∀ j, (lad k 0 n t j).1 * (lad k 0 n t j).2.1 = 0 ∧ (lad k 0 n t j).2.2.1 * (lad k 0 n t j).2.2.2 = 0
  | 0 => ⟨by show (1 : Fin M) * 0 = 0; grind, by show (0 : Fin M) * 1 = 0; grind⟩
  | j + 1 => by
      obtain ⟨h1, h2⟩ := lad_zero F k n t j
      have key : ∀ x2 z2 x3 z3 : Fin M, x2 * z2 = 0 → (lst k 0 x2 z2 x3 z3).2.1 = 0 ∧ (lst k 0 x2 z2 x3 z3).2.2.2 = 0 := by
        intro x2 z2 x3 z3 h
        refine ⟨?_, ?_⟩
        · show ((x2+z2)*(x2+z2) - (x2-z2)*(x2-z2))*((x2+z2)*(x2+z2) + k*((x2+z2)*(x2+z2) - (x2-z2)*(x2-z2))) = 0
          rw [id_b2 k _ x2 z2 rfl]
          rw [show 4*x2*z2 = 4*(x2*z2) by clear h h1 h2; grind, h]
          clear h h1 h2; grind
        · show 0*(((x3-z3)*(x2+z2) - (x3+z3)*(x2-z2))*((x3-z3)*(x2+z2) - (x3+z3)*(x2-z2))) = 0
          clear h h1 h2; grind
      have mz : ∀ a b : Fin M, b = 0 → a * b = 0 := fun a b h => by subst h; grind
      show (bst k 0 (n.testBit (t - 1 - j)) (lad k 0 n t j)).1 * (bst k 0 (n.testBit (t - 1 - j)) (lad k 0 n t j)).2.1 = 0 ∧ (bst k 0 (n.testBit (t - 1 - j)) (lad k 0 n t j)).2.2.1 * (bst k 0 (n.testBit (t - 1 - j)) (lad k 0 n t j)).2.2.2 = 0
      cases n.testBit (t - 1 - j)
      · obtain ⟨k1, k2⟩ := key _ _ (lad k 0 n t j).2.2.1 (lad k 0 n t j).2.2.2 h1
        exact ⟨mz _ _ k1, mz _ _ k2⟩
      · obtain ⟨k1, k2⟩ := key _ _ (lad k 0 n t j).1 (lad k 0 n t j).2.1 h2
        exact ⟨mz _ _ k2, mz _ _ k1⟩
theorem mulU_zero (hM : 2 < M) (F : Fl M) (k : Fin M) (n t : Nat) : mulU k 0 n t = 0 := by
  unfold mulU
  rcases mul_zero_or F (lad_zero F k n t t).1 with h | h
  · rw [h]; grind
  · rw [h, iv_zero hM]; grind
/-- where the place is 0 -/
theorem U_zero {D A e : Fin M} {Q : Fin M × Fin M} (c : Cv D A e) (hQ : On D Q) (h : U e Q = 0) : Q = O ∨ Q = (0, -1) := by
  have F := c.ns.fl
  have hy : (1 - Q.2) * (1 + Q.2) = 0 := by
    by_cases h1 : 1 - Q.2 = 0
    · rw [h1]; clear h h1 hQ; grind
    · have i1 := F.inv _ h1
      have h2 : iv (1 - Q.2) ≠ 0 := fun q => F.one (by rw [← i1, q]; clear i1 q h h1 hQ; grind)
      have h3 := (mul_zero_or F h).resolve_right h2
      rw [(mul_zero_or F h3).resolve_left (e_ne F c.sg)]; clear h h1 h2 h3 i1 hQ; grind
  have d1 : (1 : Fin M) - D ≠ 0 := fun q => c.ns.ns 1 (by clear hy h hQ; grind)
  have hx : Q.1 = 0 := by
    have h1 : Q.1 * Q.1 * (1 - D) = 0 := by unfold On at hQ; clear h d1; grind
    exact (mul_zero_or F ((mul_zero_or F h1).resolve_right d1)).elim id id
  rcases mul_zero_or F hy with q | q
  · left; exact Prod.ext hx (by show Q.2 = 1; clear h hx hy hQ d1; grind)
  · right; exact Prod.ext hx (by show Q.2 = -1; clear h hx hy hQ d1; grind)
theorem U_O (hM : 2 < M) (e : Fin M) : U e (O : Fin M × Fin M) = 0 := by
  unfold U O
  show e * (1 + 1) * iv (1 - 1) = 0
  rw [show (1 : Fin M) - 1 = 0 by grind, iv_zero hM]; grind
theorem U_T (e : Fin M) : U e ((0, -1) : Fin M × Fin M) = 0 := by
  unfold U
  show e * (1 + -1) * iv (1 - -1) = 0
  grind
theorem T_on (D : Fin M) : On D (0, -1) := by unfold On; grind
theorem T_two {D : Fin M} (h : Ns D) : add D ((0, -1) : Fin M × Fin M) (0, -1) = O := by
  have : neg ((0, -1) : Fin M × Fin M) = (0, -1) := Prod.ext (by show -(0 : Fin M) = 0; grind) rfl
  have h2 := add_neg h (T_on D)
  rw [this] at h2; exact h2
theorem T_mul {D : Fin M} (h : Ns D) : ∀ n, mulN D ((0, -1) : Fin M × Fin M) n = O ∨ mulN D ((0, -1) : Fin M × Fin M) n = (0, -1)
  | 0 => .inl rfl
  | n + 1 => by
      rcases T_mul h n with q | q
      · right; show add D (mulN D _ n) _ = _; rw [q, add_comm, add_O h (T_on D)]
      · left; show add D (mulN D _ n) _ = _; rw [q, T_two h]
theorem U_at {D A e : Fin M} {Q : Fin M × Fin M} (hM : 2 < M) (c : Cv D A e) (h : U e Q ≠ 0) : U e Q * (1 - Q.2) = e * (1 + Q.2) := by
  have F := c.ns.fl
  by_cases h1 : 1 - Q.2 = 0
  · exact absurd (by unfold U; rw [h1, iv_zero hM]; clear h h1; grind) h
  · have i1 := F.inv _ h1
    unfold U
    clear h
    generalize 1 - Q.2 = g at *
    generalize iv g = b at *
    clear h1
    grind
/-- a curve on which u is -/
def Has (A u : Fin M) : Prop := ∃ D e P, Cv D A e ∧ On D P ∧ u*(1 - P.2) = e*(1 + P.2)
theorem mulU_two {D A e k u : Fin M} {P : Fin M × Fin M} (hM : 2 < M) (c : Cv D A e) (hA : A = 4*k + 2) (hP : On D P) (hu : u*(1 - P.2) = e*(1 + P.2)) (u0 : u ≠ 0) (a b t : Nat) (ha : a < 2 ^ t) (hb : b < 2 ^ t) : mulU k (mulU k u b t) a t = U e (mulN D P (a * b)) := by
  rw [mulU_at hM c hA hP hu u0 b t hb]
  have hQ := mulN_on c.ns hP b
  rw [mulN_mul c.ns hP]
  by_cases h : U e (mulN D P b) = 0
  · rw [h, mulU_zero hM c.ns.fl]
    rcases U_zero c hQ h with q | q
    · rw [q, mulN_O c.ns, U_O hM]
    · rw [q]
      rcases T_mul c.ns a with q2 | q2
      · rw [q2, U_O hM]
      · rw [q2, U_T]
  · exact mulU_at hM c hA hQ (U_at hM c h) h a t ha
/-- THEY MEET -/
theorem meet {A k : Fin M} (hM : 2 < M) (F : Fl M) (hA : A = 4*k + 2) (has : ∀ u : Fin M, u ≠ 0 → Has A u) (u : Fin M) (a b t : Nat) (ha : a < 2 ^ t) (hb : b < 2 ^ t) : mulU k (mulU k u b t) a t = mulU k (mulU k u a t) b t := by
  by_cases u0 : u = 0
  · subst u0; simp only [mulU_zero hM F]
  · obtain ⟨D, e, P, c, hP, hu⟩ := has u u0
    rw [mulU_two hM c hA hP hu u0 a b t ha hb, mulU_two hM c hA hP hu u0 b a t hb ha, Nat.mul_comm]
/-- what n and m times is nothing, their gcd times is -/
theorem mulN_gcd {D : Fin M} {P : Fin M × Fin M} (h : Ns D) (hP : On D P) (m n : Nat) : mulN D P m = O → mulN D P n = O → mulN D P (Nat.gcd m n) = O := by
  induction m, n using Nat.gcd.induction with
  | H0 n => intro _ h2; rw [Nat.gcd_zero_left]; exact h2
  | H1 m n hm ih =>
      intro h1 h2
      rw [Nat.gcd_rec]
      refine ih ?_ h1
      have e := mulN_add h hP (m * (n / m)) (n % m)
      rw [Nat.div_add_mod, h2, Nat.mul_comm m, mulN_mul h hP, h1, mulN_O h, add_comm, add_O h (mulN_on h hP _)] at e
      exact e.symm
/-- never weak: n is coprime to an odd order of P -/
theorem strong {D A e u : Fin M} {P : Fin M × Fin M} (c : Cv D A e) (hP : On D P) (hu : u*(1 - P.2) = e*(1 + P.2)) (L n : Nat) (hL : mulN D P L = O) (hg : Nat.gcd (2 * n) L = 1) : U e (mulN D P n) ≠ 0 := by
  intro h
  have F := c.ns.fl
  have h2 : mulN D P (2 * n) = O := by
    rw [show 2 * n = n + n by omega, mulN_add c.ns hP]
    rcases U_zero c (mulN_on c.ns hP n) h with q | q
    · rw [q, add_O c.ns (O_on D)]
    · rw [q, T_two c.ns]
  have h3 := mulN_gcd c.ns hP _ _ h2 hL
  rw [hg, mulN_one c.ns hP] at h3
  rw [h3] at hu
  have h4 : e * 2 = 0 := by
    have : u * (1 - 1) = e * (1 + 1) := hu
    clear hu h h2 h3; grind
  exact (mul_zero_or F h4).elim (e_ne F c.sg) c.ns.two
/-- weak: P is of an order that divides n -/
theorem weak_of {D : Fin M} {P : Fin M × Fin M} (hM : 2 < M) (e : Fin M) (h : Ns D) (hP : On D P) (L n : Nat) (hL : mulN D P L = O) : U e (mulN D P (n * L)) = 0 := by
  rw [mulN_mul h hP, hL, mulN_O h, U_O hM]
theorem rep_O {D A e x : Fin M} {Q : Fin M × Fin M} (hM : 2 < M) (c : Cv D A e) (hQ : On D Q) (h : Rep e x 0 Q) : Q = O := by
  have F := c.ns.fl
  have h1 : x ≠ 0 := fun q => h.ne ⟨q, rfl⟩
  have h2 : x * (1 - Q.2) = 0 := by rw [h.at_]; clear h; grind
  have h3 := (mul_zero_or F h2).resolve_left h1
  have h4 : U e Q = 0 := by
    unfold U
    rw [h3, iv_zero hM]; clear h h1 h2 hQ; grind
  rcases U_zero c hQ h4 with q | q
  · exact q
  · exfalso
    rw [q] at h3
    have h5 : (1 : Fin M) - (-1) = 0 := h3
    exact c.ns.two (by clear h h1 h2 hQ h3 h4 q; grind)
end
end Go.Proofs.Ytnifolefhelmcaa.EC
/- Pure mathematics: the order of the base point, 2^252 + 27742317777372353535851937790883648493, is a prime: a chain of primes, each with an element of full order. -/
namespace Go.Proofs.Ytnifolefhelmcaa.EC
theorem i11 : FT.Irr 11 := FT.irr_small 11 4 (by decide) (by decide +kernel) (by decide +kernel)
theorem i23 : FT.Irr 23 := FT.irr_small 23 5 (by decide) (by decide +kernel) (by decide +kernel)
theorem i409477 : FT.Irr 409477 := FT.irr_small 409477 640 (by decide) (by decide +kernel) (by decide +kernel)
theorem c14741173 : FT.Cyc 14741173 := FT.irr_of 14741173 2 [2, 2, 3, 3, 409477] 24 (by decide) (by decide +kernel) (fun q hq => by
  simp only [List.mem_cons, List.not_mem_nil, or_false] at hq
  rcases hq with rfl | rfl | rfl | rfl | rfl
  · exact FT.i2
  · exact FT.i2
  · exact FT.i3
  · exact FT.i3
  · exact i409477
  ) (by decide +kernel) (by decide +kernel) (by decide +kernel)
theorem c58964693 : FT.Cyc 58964693 := FT.irr_of 58964693 2 [2, 2, 14741173] 26 (by decide) (by decide +kernel) (fun q hq => by
  simp only [List.mem_cons, List.not_mem_nil, or_false] at hq
  rcases hq with rfl | rfl | rfl
  · exact FT.i2
  · exact FT.i2
  · exact c14741173.irr
  ) (by decide +kernel) (by decide +kernel) (by decide +kernel)
theorem i30703 : FT.Irr 30703 := FT.irr_small 30703 176 (by decide) (by decide +kernel) (by decide +kernel)
theorem i82163 : FT.Irr 82163 := FT.irr_small 82163 287 (by decide) (by decide +kernel) (by decide +kernel)
theorem i132667 : FT.Irr 132667 := FT.irr_small 132667 365 (by decide) (by decide +kernel) (by decide +kernel)
theorem i137849 : FT.Irr 137849 := FT.irr_small 137849 372 (by decide) (by decide +kernel) (by decide +kernel)
theorem c3044861653679985063343 : FT.Cyc 3044861653679985063343 := FT.irr_of 3044861653679985063343 5 [2, 3, 11, 30703, 82163, 132667, 137849] 72 (by decide) (by decide +kernel) (fun q hq => by
  simp only [List.mem_cons, List.not_mem_nil, or_false] at hq
  rcases hq with rfl | rfl | rfl | rfl | rfl | rfl | rfl
  · exact FT.i2
  · exact FT.i3
  · exact i11
  · exact i30703
  · exact i82163
  · exact i132667
  · exact i137849
  ) (by decide +kernel) (by decide +kernel) (by decide +kernel)
theorem c198211423230930754013084525763697 : FT.Cyc 198211423230930754013084525763697 := FT.irr_of 198211423230930754013084525763697 5 [2, 2, 2, 2, 3, 23, 58964693, 3044861653679985063343] 108 (by decide) (by decide +kernel) (fun q hq => by
  simp only [List.mem_cons, List.not_mem_nil, or_false] at hq
  rcases hq with rfl | rfl | rfl | rfl | rfl | rfl | rfl | rfl
  · exact FT.i2
  · exact FT.i2
  · exact FT.i2
  · exact FT.i2
  · exact FT.i3
  · exact i23
  · exact c58964693.irr
  · exact c3044861653679985063343.irr
  ) (by decide +kernel) (by decide +kernel) (by decide +kernel)
theorem i269 : FT.Irr 269 := FT.irr_small 269 17 (by decide) (by decide +kernel) (by decide +kernel)
theorem i73 : FT.Irr 73 := FT.irr_small 73 9 (by decide) (by decide +kernel) (by decide +kernel)
theorem i307 : FT.Irr 307 := FT.irr_small 307 18 (by decide) (by decide +kernel) (by decide +kernel)
theorem i5879 : FT.Irr 5879 := FT.irr_small 5879 77 (by decide) (by decide +kernel) (by decide +kernel)
theorem c292386187 : FT.Cyc 292386187 := FT.irr_of 292386187 2 [2, 3, 3, 3, 3, 307, 5879] 29 (by decide) (by decide +kernel) (fun q hq => by
  simp only [List.mem_cons, List.not_mem_nil, or_false] at hq
  rcases hq with rfl | rfl | rfl | rfl | rfl | rfl | rfl
  · exact FT.i2
  · exact FT.i3
  · exact FT.i3
  · exact FT.i3
  · exact FT.i3
  · exact i307
  · exact i5879
  ) (by decide +kernel) (by decide +kernel) (by decide +kernel)
theorem c213441916511 : FT.Cyc 213441916511 := FT.irr_of 213441916511 13 [2, 5, 73, 292386187] 38 (by decide) (by decide +kernel) (fun q hq => by
  simp only [List.mem_cons, List.not_mem_nil, or_false] at hq
  rcases hq with rfl | rfl | rfl | rfl
  · exact FT.i2
  · exact FT.i5
  · exact i73
  · exact c292386187.irr
  ) (by decide +kernel) (by decide +kernel) (by decide +kernel)
theorem i1361 : FT.Irr 1361 := FT.irr_small 1361 37 (by decide) (by decide +kernel) (by decide +kernel)
theorem i2851 : FT.Irr 2851 := FT.irr_small 2851 54 (by decide) (by decide +kernel) (by decide +kernel)
theorem i41 : FT.Irr 41 := FT.irr_small 41 7 (by decide) (by decide +kernel) (by decide +kernel)
theorem i43 : FT.Irr 43 := FT.irr_small 43 7 (by decide) (by decide +kernel) (by decide +kernel)
theorem i531581 : FT.Irr 531581 := FT.irr_small 531581 730 (by decide) (by decide +kernel) (by decide +kernel)
theorem i1224481 : FT.Irr 1224481 := FT.irr_small 1224481 1107 (by decide) (by decide +kernel) (by decide +kernel)
theorem c1257559732178653 : FT.Cyc 1257559732178653 := FT.irr_of 1257559732178653 2 [2, 2, 3, 7, 23, 531581, 1224481] 51 (by decide) (by decide +kernel) (fun q hq => by
  simp only [List.mem_cons, List.not_mem_nil, or_false] at hq
  rcases hq with rfl | rfl | rfl | rfl | rfl | rfl | rfl
  · exact FT.i2
  · exact FT.i2
  · exact FT.i3
  · exact FT.i7
  · exact i23
  · exact i531581
  · exact i1224481
  ) (by decide +kernel) (by decide +kernel) (by decide +kernel)
theorem c4434155615661930479 : FT.Cyc 4434155615661930479 := FT.irr_of 4434155615661930479 17 [2, 41, 43, 1257559732178653] 62 (by decide) (by decide +kernel) (fun q hq => by
  simp only [List.mem_cons, List.not_mem_nil, or_false] at hq
  rcases hq with rfl | rfl | rfl | rfl
  · exact FT.i2
  · exact i41
  · exact i43
  · exact c1257559732178653.irr
  ) (by decide +kernel) (by decide +kernel) (by decide +kernel)
theorem c172054593956031949258510691 : FT.Cyc 172054593956031949258510691 := FT.irr_of 172054593956031949258510691 2 [2, 5, 1361, 2851, 4434155615661930479] 88 (by decide) (by decide +kernel) (fun q hq => by
  simp only [List.mem_cons, List.not_mem_nil, or_false] at hq
  rcases hq with rfl | rfl | rfl | rfl | rfl
  · exact FT.i2
  · exact FT.i5
  · exact i1361
  · exact i2851
  · exact c4434155615661930479.irr
  ) (by decide +kernel) (by decide +kernel) (by decide +kernel)
theorem c19757330305831588566944191468367130476339 : FT.Cyc 19757330305831588566944191468367130476339 := FT.irr_of 19757330305831588566944191468367130476339 2 [2, 269, 213441916511, 172054593956031949258510691] 134 (by decide) (by decide +kernel) (fun q hq => by
  simp only [List.mem_cons, List.not_mem_nil, or_false] at hq
  rcases hq with rfl | rfl | rfl | rfl
  · exact FT.i2
  · exact i269
  · exact c213441916511.irr
  · exact c172054593956031949258510691.irr
  ) (by decide +kernel) (by decide +kernel) (by decide +kernel)
theorem c276602624281642239937218680557139826668747 : FT.Cyc 276602624281642239937218680557139826668747 := FT.irr_of 276602624281642239937218680557139826668747 2 [2, 7, 19757330305831588566944191468367130476339] 138 (by decide) (by decide +kernel) (fun q hq => by
  simp only [List.mem_cons, List.not_mem_nil, or_false] at hq
  rcases hq with rfl | rfl | rfl
  · exact FT.i2
  · exact FT.i7
  · exact c19757330305831588566944191468367130476339.irr
  ) (by decide +kernel) (by decide +kernel) (by decide +kernel)
theorem c7237005577332262213973186563042994240857116359379907606001950938285454250989 : FT.Cyc 7237005577332262213973186563042994240857116359379907606001950938285454250989 := FT.irr_of 7237005577332262213973186563042994240857116359379907606001950938285454250989 2 [2, 2, 3, 11, 198211423230930754013084525763697, 276602624281642239937218680557139826668747] 253 (by decide) (by decide +kernel) (fun q hq => by
  simp only [List.mem_cons, List.not_mem_nil, or_false] at hq
  rcases hq with rfl | rfl | rfl | rfl | rfl | rfl
  · exact FT.i2
  · exact FT.i2
  · exact FT.i3
  · exact i11
  · exact c198211423230930754013084525763697.irr
  · exact c276602624281642239937218680557139826668747.irr
  ) (by decide +kernel) (by decide +kernel) (by decide +kernel)
/-- the order of the base point -/
abbrev LN : Nat := 7237005577332262213973186563042994240857116359379907606001950938285454250989
theorem LN_irr : FT.Irr LN := c7237005577332262213973186563042994240857116359379907606001950938285454250989.irr
end Go.Proofs.Ytnifolefhelmcaa.EC
/- Pure mathematics: numbers modulo 2^255 - 19: roots; every number but 0 lies on the curve or on the other one; the base point's order; the weak ones. -/
namespace Go.Proofs.Ytnifolefhelmcaa.EC
section
variable {M : Nat} [NeZero M]
theorem on_of (F : Fl M) (A u r : Fin M) (hr : r*r = (A+2)*(u*(u*u + A*u + 1))) (r0 : r ≠ 0) (a0 : A+2 ≠ 0) (u1 : u+1 ≠ 0) :
    On ((A-2)*iv (A+2)) (u*(A+2)*iv r, (u-1)*iv (u+1)) ∧ u*(1 - (u-1)*iv (u+1)) = 1 + (u-1)*iv (u+1) := by
  have u0 : u ≠ 0 := fun h => r0 (by
    have : r*r = 0 := by rw [hr, h]; grind
    exact (mul_zero_or F this).elim id id)
  have i1 := F.inv _ a0
  have i2 := F.inv _ u1
  have i3 := F.inv _ r0
  refine ⟨?_, ?_⟩
  · show u*(A+2)*iv r*(u*(A+2)*iv r) + (u-1)*iv (u+1)*((u-1)*iv (u+1)) = 1 + (A-2)*iv (A+2)*(u*(A+2)*iv r)*(u*(A+2)*iv r)*((u-1)*iv (u+1))*((u-1)*iv (u+1))
    generalize iv (A+2) = c at *
    generalize iv (u+1) = i at *
    generalize iv r = j at *
    have x2 : (u*(A+2)*j)*(u*(A+2)*j)*(u*u + A*u + 1) = u*(A+2) := by
      refine cancel F (mul_ne F a0 u0) ?_
      have : (u*(A+2)*j)*(u*(A+2)*j)*(u*u + A*u + 1)*((A+2)*u) = (u*(A+2))*(u*(A+2))*((r*r)*(j*j)) := by rw [hr]; clear i1 i2 i3 hr; grind
      rw [this, show r*r*(j*j) = (r*j)*(r*j) by clear i1 i2 i3 hr this; grind, i3]
      clear i1 i2 i3 hr this; grind
    generalize u*(A+2)*j = X at *
    clear hr i3
    refine cancel F (mul_ne F a0 (mul_ne F u1 u1)) ?_
    have s1 : (X*X + (u-1)*i*((u-1)*i))*((A+2)*((u+1)*(u+1))) = (A+2)*(X*X*((u+1)*(u+1)) + (u-1)*(u-1)*(((u+1)*i)*((u+1)*i))) := by clear i1 i2 x2; grind
    have s2 : (1 + (A-2)*c*X*X*((u-1)*i)*((u-1)*i))*((A+2)*((u+1)*(u+1))) = (A+2)*((u+1)*(u+1)) + (A-2)*((A+2)*c)*X*X*((u-1)*(u-1))*(((u+1)*i)*((u+1)*i)) := by clear i1 i2 x2; grind
    rw [s1, s2, i1, i2]
    clear s1 s2 i1 i2
    grind
  · generalize iv (u+1) = i at *
    clear i1 i3 hr
    grind
end
abbrev PN : Nat := 57896044618658097711785492504343953926634992332820282019728792003956564819949
theorem PN_cyc : FT.Cyc PN := FT.c57896044618658097711785492504343953926634992332820282019728792003956564819949
theorem PN_fl : Fl PN := by
  refine ⟨fun a ha => Fin.ext ?_, by decide⟩
  show a.val * (a.val ^ (PN - 2) % PN) % PN = 1
  have h1 : a.val % PN ≠ 0 := fun h => ha (Fin.ext (by rw [Nat.mod_eq_of_lt a.isLt] at h; exact h))
  have h2 := PN_cyc.pow a.val h1
  obtain ⟨e, he⟩ : ∃ e, PN - 2 = e := ⟨_, rfl⟩
  have he1 : PN - 1 = e + 1 := by omega
  rw [he1] at h2
  rw [he]
  generalize a.val = x at *
  clear he he1
  rw [Nat.pow_succ] at h2
  rw [Nat.mul_mod_mod, Nat.mul_comm]
  exact h2
/-- half of p - 1; a quarter; an eighth of p + 3 -/
def E2 : Nat := 28948022309329048855892746252171976963317496166410141009864396001978282409974
def E4 : Nat := 14474011154664524427946373126085988481658748083205070504932198000989141204987
def E8 : Nat := 7237005577332262213973186563042994240829374041602535252466099000494570602494
theorem e_1 : PN - 1 = E2 + E2 := by decide
theorem e_2 : E2 = E4 + E4 := by decide
theorem e_4 : E8 + E8 = E4 + 1 := by decide
theorem pm1 (x : Nat) (h : x * x % PN = 1) : x % PN = 1 ∨ x % PN = PN - 1 := by
  have hb := Nat.mod_lt x (show PN > 0 by decide)
  rw [Nat.mul_mod] at h
  generalize x % PN = c at *
  have hc : 0 < c := Nat.pos_of_ne_zero (fun q => by subst q; revert h; decide)
  have h1 : ((c - 1) * (c + 1)) % PN = 0 := by
    have e : (c - 1) * (c + 1) = c * c - 1 := by
      obtain ⟨d, rfl⟩ : ∃ d, c = d + 1 := ⟨c - 1, by omega⟩
      rw [Nat.add_sub_cancel, Nat.mul_succ (d + 1) d, Nat.mul_comm (d + 1) d, Nat.mul_succ d (d + 1)]; omega
    rw [e]
    have := Nat.div_add_mod (c * c) PN
    rw [h] at this
    rw [← this, Nat.add_sub_cancel, Nat.mul_mod_right]
  rcases PN_cyc.euclid _ _ h1 with q | q
  · left; rw [Nat.mod_eq_of_lt (by omega)] at q; omega
  · right
    by_cases h2 : c + 1 < PN
    · rw [Nat.mod_eq_of_lt h2] at q; omega
    · omega
theorem minus_one (z : Nat) : ((PN - 1) * z * (PN - 1)) % PN = z % PN := by
  rw [Nat.mul_comm (PN - 1) z, Nat.mul_assoc, Nat.mul_mod, show (PN - 1) * (PN - 1) % PN = 1 by decide +kernel, Nat.mul_one, Nat.mod_mod]
theorem sq_of (z : Nat) (h : z ^ E2 % PN = 1) : ∃ r, r * r % PN = z % PN := by
  have h4 : (z ^ E4 * z ^ E4) % PN = 1 := by
    rw [← Nat.pow_add, ← e_2]; exact h
  have h8 : z ^ E8 * z ^ E8 = z ^ E4 * z := by rw [← Nat.pow_add, e_4, Nat.pow_succ]
  generalize z ^ E8 = r at *
  generalize z ^ E4 = t at *
  clear h
  rcases pm1 t h4 with q | q
  · exact ⟨r, by rw [h8, Nat.mul_mod, q, Nat.one_mul, Nat.mod_mod]⟩
  · refine ⟨r * 19681161376707505956807079304988542015446066515923890162744021073123829784752, ?_⟩
    rw [Nat.mul_mul_mul_comm, h8, Nat.mul_mod, show 19681161376707505956807079304988542015446066515923890162744021073123829784752 * 19681161376707505956807079304988542015446066515923890162744021073123829784752 % PN = PN - 1 by decide +kernel, Nat.mul_mod t z, q, Nat.mod_mul_mod, minus_one, Nat.mod_mod]
theorem chi_N : 236839902240 ^ E2 % PN = PN - 1 := by
  rw [← FT.pm_eq PN 255 236839902240 E2 (by decide +kernel)]
  decide +kernel
theorem chi (z : Nat) (hz : z % PN ≠ 0) : z ^ E2 % PN = 1 ∨ z ^ E2 % PN = PN - 1 := by
  have h := PN_cyc.pow z hz
  rw [e_1, Nat.pow_add] at h
  exact pm1 _ h
theorem no_sq (s : Nat) : s * s % PN ≠ 236839902240 := by
  intro h
  have s0 : s % PN ≠ 0 := fun q => by
    rw [Nat.mul_mod, q] at h; revert h; decide
  have h1 := PN_cyc.pow s s0
  rw [e_1, Nat.pow_add, ← Nat.mul_pow, Nat.pow_mod, h, chi_N] at h1
  revert h1; decide
theorem sq_or_nat (z : Nat) (hz : z % PN ≠ 0) : (∃ r, r * r % PN = z % PN) ∨ ∃ r, r * r % PN = z * 236839902240 % PN := by
  rcases chi z hz with h | h
  · exact .inl (sq_of z h)
  · refine .inr (sq_of _ ?_)
    rw [Nat.mul_pow, Nat.mul_mod, h, chi_N]; decide +kernel
theorem no_sqF (s : Fin PN) : s * s ≠ 236839902240 := fun h => no_sq s.val (congrArg Fin.val h)
theorem sq_or (z : Fin PN) (hz : z ≠ 0) : (∃ r, r * r = z) ∨ ∃ r, r * r = z * 236839902240 := by
  have lift : ∀ (r : Nat) (a : Fin PN), r * r % PN = a.val → ∃ r : Fin PN, r * r = a := fun r a h =>
    ⟨⟨r % PN, Nat.mod_lt _ (by decide)⟩, Fin.ext (by show (r % PN) * (r % PN) % PN = a.val; rw [← Nat.mul_mod]; exact h)⟩
  have hb := Nat.mod_eq_of_lt z.isLt
  rcases sq_or_nat z.val (fun h => hz (Fin.ext (by rw [hb] at h; exact h))) with ⟨r, hr⟩ | ⟨r, hr⟩
  · exact .inl (lift r z (by rw [hr, hb]))
  · exact .inr (lift r (z * 236839902240) hr)
theorem two_ne : (2 : Fin PN) ≠ 0 := by decide
/-- the curve -/
theorem cv_one : Cv (((486662 : Fin PN) - 2) * iv ((486662 : Fin PN) + 2)) 486662 1 := by
  have a0 : (486662 : Fin PN) + 2 ≠ 0 := by decide
  have i1 := PN_fl.inv _ a0
  refine ⟨⟨PN_fl, fun s hs => ?_, two_ne⟩, by decide, ?_, by decide⟩
  · refine no_sqF (s * ((486662 : Fin PN) + 2)) ?_
    have : s * ((486662 : Fin PN) + 2) * (s * ((486662 : Fin PN) + 2)) = s * s * (((486662 : Fin PN) + 2) * ((486662 : Fin PN) + 2)) := by generalize (486662 : Fin PN) + 2 = a; grind
    rw [this, hs]
    have e : ((486662 : Fin PN) - 2) * iv ((486662 : Fin PN) + 2) * (((486662 : Fin PN) + 2) * ((486662 : Fin PN) + 2)) = ((486662 : Fin PN) - 2) * ((486662 : Fin PN) + 2) := by
      generalize (486662 : Fin PN) + 2 = a at *
      generalize (486662 : Fin PN) - 2 = b at *
      generalize iv a = c at *
      clear this hs a0
      grind
    rw [e]; decide
  · rw [show (1 : Fin PN) * 486662 = 486662 by decide]
    generalize (486662 : Fin PN) + 2 = a at *
    generalize (486662 : Fin PN) - 2 = b at *
    generalize iv a = c at *
    clear a0
    grind
/-- the other one -/
theorem cv_two : Cv ((-(486662 : Fin PN) - 2) * iv (-(486662 : Fin PN) + 2)) 486662 (-1) := by
  have a0 : -(486662 : Fin PN) + 2 ≠ 0 := by decide
  have i1 := PN_fl.inv _ a0
  refine ⟨⟨PN_fl, fun s hs => ?_, two_ne⟩, by decide, ?_, by decide⟩
  · refine no_sqF (s * (-(486662 : Fin PN) + 2)) ?_
    have : s * (-(486662 : Fin PN) + 2) * (s * (-(486662 : Fin PN) + 2)) = s * s * ((-(486662 : Fin PN) + 2) * (-(486662 : Fin PN) + 2)) := by generalize -(486662 : Fin PN) + 2 = a; grind
    rw [this, hs]
    have e : (-(486662 : Fin PN) - 2) * iv (-(486662 : Fin PN) + 2) * ((-(486662 : Fin PN) + 2) * (-(486662 : Fin PN) + 2)) = (-(486662 : Fin PN) - 2) * (-(486662 : Fin PN) + 2) := by
      generalize -(486662 : Fin PN) + 2 = a at *
      generalize -(486662 : Fin PN) - 2 = b at *
      generalize iv a = c at *
      clear this hs a0
      grind
    rw [e]; decide
  · rw [show (-1 : Fin PN) * 486662 = -486662 by decide]
    generalize -(486662 : Fin PN) + 2 = a at *
    generalize -(486662 : Fin PN) - 2 = b at *
    generalize iv a = c at *
    clear a0
    grind
theorem has (u : Fin PN) (u0 : u ≠ 0) : Has 486662 u := by
  have F := PN_fl
  have g0 : u*u + 486662*u + 1 ≠ 0 := fun h => no_sqF (2*u + 486662) (by
    have e : (2*u + 486662)*(2*u + 486662) = 4*(u*u + 486662*u + 1) + (486662*486662 - 4) := by
      generalize (486662 : Fin PN) = A
      clear h; grind
    rw [e, h]; decide)
  have f0 := mul_ne F u0 g0
  have a0 : (486662 : Fin PN) + 2 ≠ 0 := by decide
  have b0 : -(486662 : Fin PN) + 2 ≠ 0 := by decide
  rcases sq_or _ (mul_ne F a0 f0) with ⟨r, hr⟩ | ⟨r, hr⟩
  · have r0 : r ≠ 0 := fun h => mul_ne F a0 f0 (by rw [← hr, h]; decide)
    have u1 : u + 1 ≠ 0 := fun h => by
      have hu : u = -1 := by clear hr f0 g0; grind
      refine no_sqF r ?_
      rw [hr, hu]; decide
    obtain ⟨h1, h2⟩ := on_of F 486662 u r hr r0 a0 u1
    refine ⟨_, 1, _, cv_one, h1, ?_⟩
    show u*(1 - (u-1)*iv (u+1)) = 1 * (1 + (u-1)*iv (u+1))
    rw [h2]; generalize (u-1)*iv (u+1) = t; clear h1 h2 hr; grind
  · -- the other curve
    have i1 := F.inv _ a0
    have hr2 : (r * iv ((486662 : Fin PN) + 2)) * (r * iv ((486662 : Fin PN) + 2)) = ((486662 : Fin PN) - 2) * (u*(u*u + 486662*u + 1)) := by
      have e : (r * iv ((486662 : Fin PN) + 2)) * (r * iv ((486662 : Fin PN) + 2)) = (r*r) * (iv ((486662 : Fin PN) + 2) * iv ((486662 : Fin PN) + 2)) := by generalize iv ((486662 : Fin PN) + 2) = c; clear hr i1; grind
      rw [e, hr, show (236839902240 : Fin PN) = ((486662 : Fin PN) + 2) * ((486662 : Fin PN) - 2) by decide]
      generalize (486662 : Fin PN) + 2 = a at *
      generalize (486662 : Fin PN) - 2 = b at *
      generalize iv a = c at *
      generalize u*(u*u + 486662*u + 1) = f at *
      clear e hr f0 g0 a0 b0
      grind
    have hr3 : (r * iv ((486662 : Fin PN) + 2)) * (r * iv ((486662 : Fin PN) + 2)) = (-(486662 : Fin PN) + 2) * ((-u)*((-u)*(-u) + (-486662)*(-u) + 1)) := by
      rw [hr2]
      generalize (486662 : Fin PN) = A
      clear hr hr2; grind
    generalize r * iv ((486662 : Fin PN) + 2) = s at *
    have s0 : s ≠ 0 := fun h => mul_ne F (show (486662 : Fin PN) - 2 ≠ 0 by decide) f0 (by rw [← hr2, h]; decide)
    have u1 : -u + 1 ≠ 0 := fun h => by
      have hu : u = 1 := by clear hr hr2 hr3 f0 g0; grind
      refine no_sqF s ?_
      rw [hr2, hu]; decide
    obtain ⟨h1, h2⟩ := on_of F (-486662) (-u) s hr3 s0 b0 u1
    refine ⟨_, -1, _, cv_two, h1, ?_⟩
    show u*(1 - (-u-1)*iv (-u+1)) = -1 * (1 + (-u-1)*iv (-u+1))
    rw [← h2]; generalize (-u-1)*iv (-u+1) = t; clear h1 h2 hr hr2 hr3; grind
theorem big : 2 < PN := by decide
theorem cur : (486662 : Fin PN) = 4 * 121665 + 2 := by decide
/-- THEY MEET -/
theorem meetF (u : Fin PN) (a b : Nat) (ha : a < 2 ^ 255) (hb : b < 2 ^ 255) : mulU 121665 (mulU 121665 u b 255) a 255 = mulU 121665 (mulU 121665 u a 255) b 255 :=
  meet big PN_fl cur has u a b 255 ha hb
end Go.Proofs.Ytnifolefhelmcaa.EC
/- Pure mathematics: the base point has a prime order; what is weak and what is not. -/
namespace Go.Proofs.Ytnifolefhelmcaa.EC
theorem base_order : (lad (121665 : Fin PN) 9 LN 253 253).2.1 = 0 := by decide +kernel
/-- what is clamped, as a number -/
structure Cl (n : Nat) : Prop where
  lt : n < 2 ^ 255
  ge : 2 ^ 254 ≤ n
  by8 : n % 8 = 0
theorem Cl.coprime {n : Nat} (h : Cl n) : Nat.gcd n LN = 1 := by
  obtain ⟨k, hk⟩ := Nat.dvd_of_mod_eq_zero h.by8
  have h1 := h.lt
  have h2 := h.ge
  have k1 : 0 < k := by omega
  have k2 : k < LN := by
    have : (2 : Nat) ^ 255 = 8 * 2 ^ 252 := by decide
    have : (2 : Nat) ^ 252 < LN := by decide
    omega
  rcases LN_irr.2 _ (Nat.gcd_dvd_right n LN) with q | q
  · exact q
  · exfalso
    have h3 : LN ∣ 8 * k := by rw [← hk]; exact q ▸ Nat.gcd_dvd_left n LN
    have h4 : LN ∣ k := Nat.Coprime.dvd_of_dvd_mul_left (by decide +kernel : Nat.Coprime LN 8) h3
    have := Nat.le_of_dvd k1 h4
    omega
theorem nine : (9 : Fin PN) ≠ 0 := by decide
theorem order_of {D e : Fin PN} {P : Fin PN × Fin PN} (c : Cv D 486662 e) (hP : On D P) (hu : 9*(1 - P.2) = e*(1 + P.2)) : mulN D P LN = O := by
  have h := (at_lad c cur hP hu nine LN 253 (by decide +kernel) 253 (Nat.le_refl _)).1
  rw [Nat.sub_self, Nat.pow_zero, Nat.div_one, base_order] at h
  exact rep_O big c (mulN_on c.ns hP _) h
theorem cop2 {n : Nat} (h : Nat.gcd n LN = 1) : Nat.gcd (2 * n) LN = 1 := Nat.Coprime.mul_left (by decide +kernel : Nat.Coprime 2 LN) h
/-- a public key is not 0 -/
theorem baseF (n : Nat) (h : Cl n) : mulU 121665 (9 : Fin PN) n 255 ≠ 0 := by
  obtain ⟨D, e, P, c, hP, hu⟩ := has 9 nine
  rw [mulU_at big c cur hP hu nine n 255 h.lt]
  exact strong c hP hu LN n (order_of c hP hu) (cop2 h.coprime)
/-- nor is a secret of two -/
theorem secretF (m n : Nat) (hm : Cl m) (h : Cl n) : mulU 121665 (mulU 121665 (9 : Fin PN) n 255) m 255 ≠ 0 := by
  obtain ⟨D, e, P, c, hP, hu⟩ := has 9 nine
  rw [mulU_two big c cur hP hu nine m n 255 hm.lt h.lt]
  exact strong c hP hu LN (m * n) (order_of c hP hu) (cop2 (Nat.Coprime.mul_left hm.coprime h.coprime))
/-- twice, by one coordinate -/
def dblF (s : Fin PN × Fin PN) : Fin PN × Fin PN := ((s.1*s.1 - s.2*s.2)*(s.1*s.1 - s.2*s.2), 4*s.1*s.2*(s.1*s.1 + 486662*s.1*s.2 + s.2*s.2))
theorem weakF (u : Fin PN) (n : Nat) (h : Cl n) (hu8 : u = 0 ∨ (dblF (dblF (dblF (u, 1)))).2 = 0) : mulU 121665 u n 255 = 0 := by
  by_cases u0 : u = 0
  · rw [u0, mulU_zero big PN_fl]
  · have h8 := hu8.resolve_left u0
    obtain ⟨D, e, P, c, hP, hu⟩ := has u u0
    rw [mulU_at big c cur hP hu u0 n 255 h.lt]
    have one : (1 : Fin PN) ≠ 0 := by decide
    have r1 : Rep e u 1 (mulN D P 1) := ⟨by rw [mulN_one c.ns hP, hu]; generalize (1 : Fin PN) + P.2 = t; clear hu h8; grind, fun q => one q.2⟩
    have r2 : Rep e (dblF (u, 1)).1 (dblF (u, 1)).2 (mulN D P (1 + 1)) := by rw [mulN_add c.ns hP]; exact rep_dbl c (mulN_on c.ns hP 1) r1
    have r3 : Rep e (dblF (dblF (u, 1))).1 (dblF (dblF (u, 1))).2 (mulN D P (2 + 2)) := by rw [mulN_add c.ns hP]; exact rep_dbl c (mulN_on c.ns hP 2) r2
    have r4 : Rep e (dblF (dblF (dblF (u, 1)))).1 (dblF (dblF (dblF (u, 1)))).2 (mulN D P (4 + 4)) := by rw [mulN_add c.ns hP]; exact rep_dbl c (mulN_on c.ns hP 4) r3
    rw [h8] at r4
    have h9 := rep_O big c (mulN_on c.ns hP _) r4
    obtain ⟨k, hk⟩ := Nat.dvd_of_mod_eq_zero h.by8
    rw [hk, Nat.mul_comm 8 k]
    exact weak_of big e c.ns hP 8 k h9
theorem weak_1 : (dblF (dblF (dblF (1, 1)))).2 = 0 := by decide +kernel
theorem weak_2 : (dblF (dblF (dblF (57896044618658097711785492504343953926634992332820282019728792003956564819948, 1)))).2 = 0 := by decide +kernel
theorem weak_5 : (dblF (dblF (dblF (325606250916557431795983626356110631294008115727848805560023387167927233504, 1)))).2 = 0 := by decide +kernel
theorem weak_6 : (dblF (dblF (dblF (39382357235489614581723060781553021112529911719440698176882885853963445705823, 1)))).2 = 0 := by decide +kernel
end Go.Proofs.Ytnifolefhelmcaa.EC
