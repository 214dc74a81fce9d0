/-
  Several texts in one: .
-/

