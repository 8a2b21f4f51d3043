"""Salvor: a checker of stores that must survive crashes."""
